package rule_test

import (
	"fmt"
	"slices"
	"testing"

	"spindle/api"
	"spindle/rule"
)

// P11.1: the numbers of the eight, and what may be said of each, laid down by hand.
func TestCommands(t *testing.T) {
	for _, x := range []struct {
		command uint16
		flags   uint16
		changes bool
	}{
		{0, 1 | 4, false},
		{1, 1, true},
		{2, 1, false},
		{3, 1, false},
		{4, 1, true},
		{5, 1, false},
		{6, 1 | 2 | 16, true},
		{7, 1 | 8, false},
	} {
		what := fmt.Sprintf("command %d", x.command)
		want(t, what+": Known", rule.Known(x.command), true)
		want(t, what+": Allowed", rule.Allowed(x.command), x.flags)
		want(t, what+": Changes", rule.Changes(x.command), x.changes)
	}
}

// P11.1, R1: every number but the eight is none, has no flags and changes nothing.
func TestNoCommands(t *testing.T) {
	for n := 8; n <= 65535; n++ {
		c := uint16(n)
		what := fmt.Sprintf("command %d", n)
		want(t, what+": Known", rule.Known(c), false)
		want(t, what+": Allowed", rule.Allowed(c), 0)
		want(t, what+": Changes", rule.Changes(c), false)
	}
}

// P11.1: no command may have FlagPayload by itself.
func TestPayloadIsAllowedToNone(t *testing.T) {
	for _, c := range append(eight(), strange()...) {
		want(t, fmt.Sprintf("command %d", c), rule.Allowed(c)&api.FlagPayload, 0)
	}
}

// P11.1, P11.2: what Known, Allowed and Changes tell is what Check goes by.
func TestCheckGoesByTheCommands(t *testing.T) {
	for _, c := range append(eight(), strange()...) {
		s := telling(chunks)
		x := asked{large(), s, payload(1024), ask(s, c, 0, 512)}
		if c == api.CmdFlush {
			x.q.Length = 0
		}
		what := fmt.Sprintf("command %d", c)
		want(t, what+": is right", x.check() == 0, rule.Known(c))
		x.e.ReadOnly = true
		want(t, what+": EPerm of a ReadOnly one", x.check() == api.EPerm, rule.Changes(c))
		x.e.ReadOnly = false
		for bit := range 16 {
			x.q.Flags = 1 << bit
			want(t, fmt.Sprintf("%s: flag %d is right", what, x.q.Flags), x.check() == 0, rule.Allowed(c)&x.q.Flags != 0)
		}
	}
}

// P11.2, rule 1: numbers of no command, of whatever range, flags, session and export.
func TestUnknown(t *testing.T) {
	for _, c := range strange() {
		for _, s := range sessions() {
			for _, e := range []api.Export{small(), only(small()), sectors(small(), 0)} {
				for _, length := range []uint64{0, 512, 513, top} {
					for _, flags := range []uint16{0, 1, 2, 4, 16, 18, 32, 65535} {
						wantCheck(t, "rule 1", asked{e, s, payload(1024), api.Request{Type: c, Flags: flags, Offset: 512, Length: length}}, api.EInval)
					}
				}
			}
		}
	}
	if slices.ContainsFunc(strange(), rule.Known) {
		t.Error("a strange one is known")
	}
}
