package reply_test

import (
	"testing"

	"spindle/api"
	"spindle/reply"
)

// P12.2, W3: in chunks comes all that is extended, and, where these were agreed upon, reads and statuses.
func TestStructured(t *testing.T) {
	for _, s := range sessions() {
		for command := range 65536 {
			inChunks := s.Extended || s.Structured && (command == 0 || command == 7)
			for _, r := range []api.Request{{Type: uint16(command)}, {Type: uint16(command), Flags: 65535, Cookie: top, Offset: top, Length: top, Data: []byte{1}}} {
				if got := reply.Structured(s, r); got != inChunks {
					t.Fatalf("%+v, command %d: %v", s, command, got)
				}
			}
		}
	}
}

// P12.3, P12.4: the other form is refused, of what went well and of errors alike.
func TestTheOtherForm(t *testing.T) {
	for _, s := range sessions() {
		for _, command := range all() {
			r := ask(command, 512, 8)
			inChunks := s.Extended || s.Structured && (command == 0 || command == 7)
			simple, chunks := api.OK, api.ErrArg
			if inChunks {
				simple, chunks = chunks, simple
			}
			for _, o := range []api.Outcome{{Code: 22}, {Code: 5, Placed: true, At: 512}} {
				wantErrors(t, "an error", call{s, r, o}, simple, chunks, api.OK)
			}
			if command != api.CmdStatus || tells(s) {
				wantErrors(t, "it went well", call{s, r, well(s, r)}, simple, chunks, api.OK)
			}
		}
	}
}

// P12.3, P12.4, R3: an outcome that does not fit is told ahead of a form that is not the one.
func TestOutcomeAheadOfForm(t *testing.T) {
	for _, s := range sessions() {
		for _, command := range all() {
			r := ask(command, 512, 8)
			for _, o := range []api.Outcome{{Code: 5, At: 1}, {At: 1}, pieces(hole(512, 7)), lists(nil), lists(list(7, 0))} {
				wantErrors(t, "neither", call{s, r, o}, api.ErrOutcome, api.ErrOutcome, api.ErrOutcome)
			}
		}
	}
}
