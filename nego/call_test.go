package nego_test

import (
	"fmt"
	"testing"

	"spindle/api"
	"spindle/nego"
)

// R1: a nil talk, and one that New did not give, however often they are asked.
func TestNoTalk(t *testing.T) {
	for what, x := range map[string]*nego.Talk{"nil": nil, "zero": {}, "new": new(nego.Talk)} {
		for range 2 {
			want(t, what+": Greeting", x.Greeting(), api.Greeting{})
			wantSession(t, what, x, api.Session{}, false)
			for _, f := range []uint32{0, 1, 2, 3, 4, max32} {
				wantErr(t, fmt.Sprintf("%s: Flags(%d)", what, f), x.Flags(f), api.ErrNil)
			}
			for _, code := range every() {
				wantNoAnswer(t, what, x, proper(code), api.ErrNil)
				wantNoAnswer(t, what, x, sent(code, 'a'), api.ErrNil)
				wantNoAnswer(t, what, x, api.Option{Code: code, Long: true}, api.ErrNil)
			}
			wantSession(t, what, x, api.Session{}, false)
		}
	}
}

// R5, R9: talks side by side, of the same exports and of others, know nothing of one another.
func TestSideBySide(t *testing.T) {
	d := dice(12)
	for run := range 300 {
		lists := [][]api.Export{mixed(), mixed(), two(), pair(), nested()}
		var talks []*nego.Talk
		var plains []*plain
		for i, l := range lists {
			payload := uint32(512 + i)
			x, _ := nego.New(l, api.Limits{Payload: payload, Option: 64, Flight: 1})
			f := pick[uint32](&d, 0, 1, 2, 3, 3, 3, 3, 4)
			p := newPlain(l, payload)
			wantErr(t, "Flags", x.Flags(f), p.setFlags(f))
			talks, plains = append(talks, x), append(plains, p)
		}
		for step := range 60 {
			i := d.below(len(talks))
			wantAsPlain(t, fmt.Sprintf("run %d, step %d, talk %d", run, step, i), talks[i], plains[i], thrownOption(&d, namesOf(lists[i])))
		}
		for i := range talks {
			wantSession(t, fmt.Sprintf("run %d, talk %d at the end", run, i), talks[i], plains[i].session(), plains[i].begun)
		}
	}
}

// R5: the same calls give the same answers, however often they are made. (The contexts lie in a map.)
func TestAgain(t *testing.T) {
	var first []string
	for range 100 {
		x := chunked(t, pair())
		var answers []string
		for _, o := range []api.Option{
			sent(api.OptList), sent(api.OptListMeta, metaRequest("")...), sent(api.OptListMeta, metaRequest("", "spindle:", "base:", "spindle:")...),
			set("", "spindle:dirty", "spindle:unsaved", "base:allocation", "spindle:dirty"), sent(api.OptGo, infoRequest("", 2, 1, 3)...),
		} {
			l, s, e := x.Option(o)
			answers = append(answers, fmt.Sprint(l, s, e))
		}
		answers = append(answers, fmt.Sprint(x.Session(), x.Started()))
		if first == nil {
			first = answers
		}
		want(t, "told again", fmt.Sprint(answers), fmt.Sprint(first))
	}
}
