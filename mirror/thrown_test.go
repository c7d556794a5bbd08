package mirror_test

import (
	"fmt"
	"slices"
	"testing"

	"spindle/api"
)

// A game is a desk whose members' hosts answer whatever is thrown for.
type game struct {
	*desk
	d     *dice
	hosts []*host
	wild  bool // the hosts say what no server says, now and then
	busy  int  // how many of a hundred steps are operations
	fails int  // how many of a hundred answers are errors
	met   map[string]int
}

func newGame(t *testing.T, d *dice, what string, met map[string]int) *game {
	t.Helper()
	p := api.MirrorPlan{Members: 1 + d.below(4), Name: pick(d, "", "a", "für sich"), Size: pick[uint64](d, 1, 700, 4096, 4096, 4096, 10000), Chunk: pick[uint32](d, 512, 1000, 4096)}
	g := &game{desk: newDesk(t, what, p), d: d, wild: d.below(4) == 0, busy: pick(d, 1, 4, 17), fails: pick(d, 0, 2, 12), met: met}
	for range p.Members {
		g.hosts = append(g.hosts, &host{})
	}
	return g
}

// words throws for what a host says next.
func (g *game) words(h *host) []byte {
	var b []byte
	switch {
	case g.wild && g.d.below(60) == 0:
		b = pick(g.d, many(40, 0), well(uint64(g.d.below(6))), ackBytes(7), greetingBytes(3), startBytes(4096), simpleBytes(5, uint64(g.d.below(6))))
	case h.chosen && g.d.below(25) == 0:
		b = replyBytes(7, 1<<31+uint32(g.d.below(12)))
	case h.chosen && g.d.below(25) == 0:
		b = startBytes(g.p.plan.Size - 1)
	case len(h.requests) > 0:
		for more := true; more && len(h.requests) > 0; more = g.d.bool() {
			code := uint32(0)
			if g.d.below(100) < g.fails {
				code = pick[uint32](g.d, 5, 28, 1000)
			}
			b = append(b, h.answer(g.d.below(len(h.requests)), code)...)
		}
	default:
		b = h.next(g.p.plan.Size + pick[uint64](g.d, 0, 0, 1, 512))
	}
	if g.wild && len(b) > 0 && g.d.below(60) == 0 {
		b[g.d.below(min(len(b), 40))] ^= pick[byte](g.d, 1, 2, 128, byte(g.d.below(256)))
	}
	return b
}

// hears lets a member hear what its host says, in pieces that are thrown.
func (g *game) hears(k int) {
	g.t.Helper()
	for b := g.words(g.hosts[k]); len(b) > 0; {
		n := len(b)
		if g.d.below(3) == 0 {
			n = min(1+g.d.below(pick(g.d, 8, 40, 5000)), n)
		}
		g.count(k)
		g.hear(k, b[:n])
		b = b[n:]
	}
}

// operate asks an operation that is thrown, one that is refused now and then.
func (g *game) operate() {
	g.t.Helper()
	size := g.p.plan.Size
	off := uint64(g.d.below(int(size) + 1))
	n := uint64(1 + g.d.below(int(size)))
	if g.d.below(20) > 0 {
		n = min(n, uint64(g.p.plan.Chunk), max(1, size-off))
	}
	if g.d.below(50) == 0 {
		n = 0
	}
	switch g.d.below(7) {
	case 0, 1:
		g.read(off, uint32(n))
	case 2, 3:
		g.write(off, many(int(n), g.d.below(200)))
	case 4, 5:
		g.zero(off, uint32(n))
	case 6:
		g.flush()
	}
}

// step does one thing that is thrown.
func (g *game) step() {
	g.t.Helper()
	k := g.d.below(len(g.hosts))
	n := g.d.below(100)
	if g.p.copy != nil && g.p.first(api.MemberWhole) < 0 { // a flush that goes on without a whole one is rare
		k, n = pick(g.d, k, g.p.copy.to), pick(g.d, n, n, 67, 68, 68, 90)
	}
	switch {
	case n < 12:
		if g.join(k) == api.OK {
			*g.hosts[k] = host{}
		}
	case n < 35:
		g.hosts[k].take(g.t, g.say(k))
	case n < 65:
		g.hears(k)
	case n < 68:
		g.count(k)
		g.lost(k)
	case n < 68+g.busy:
		g.operate()
	case n < 90:
		g.done()
	case n < 92:
		copying := g.p.copy != nil
		g.met[fmt.Sprintf("Trust answers %d, copying %v", g.trust(k), copying)]++
	case n == 92:
		g.hear(pick(g.d, -1, len(g.hosts)), many(20, 0))
	default:
		g.hosts[k].take(g.t, g.say(k))
		g.hears(k)
	}
}

// count counts what a member is about to be dropped from, or trusted, or answers.
func (g *game) count(k int) {
	l := g.m.Look()
	role := "nobody"
	switch {
	case g.p.copy != nil && g.p.copy.flush && g.p.copy.to == k:
		role = "the flushed one"
	case g.p.copy != nil && g.p.copy.to == k:
		role = "the target"
	case g.p.copy != nil && g.p.copy.from == k && !g.p.copy.flush:
		role = "the source"
	case g.p.inWork() != nil && g.p.inWork().of[k] != "":
		role = fmt.Sprintf("kind %d, %s", g.p.inWork().q.Type, g.p.inWork().of[k])
	}
	whole := slices.Contains(l.Members, api.MemberWhole)
	g.met[fmt.Sprintf("%s, some whole %v, some wait %v", role, whole, l.Waiting > 0)]++
}

// P24.2 to P24.9: whatever members' servers answer, in whatever order, with losses, errors and bytes that are none, and with whatever is asked meanwhile: the mirror does what the chapter's words say.
func TestThrown(t *testing.T) {
	d := dice(41)
	met := map[string]int{}
	for r := range 1000 {
		g := newGame(t, &d, "", met)
		for n := range 500 {
			g.what = fmt.Sprintf("run %d, step %d", r, n)
			g.step()
		}
		for _, x := range g.done() {
			met[fmt.Sprintf("code %d", x.Code)]++
		}
	}
	for _, what := range []string{
		"code 0", "code 5", "Trust answers 0, copying true", "Trust answers 0, copying false", "Trust answers 241, copying true",
		"nobody, some whole true, some wait false", "nobody, some whole false, some wait false", "nobody, some whole true, some wait true", "nobody, some whole false, some wait true",
		"the flushed one, some whole true, some wait false", "the flushed one, some whole true, some wait true", "the flushed one, some whole false, some wait true", "the flushed one, some whole false, some wait false",
		"the target, some whole true, some wait true", "the target, some whole true, some wait false", "the source, some whole true, some wait true", "the source, some whole true, some wait false",
		"kind 0, whole, some whole true, some wait true", "kind 1, whole, some whole true, some wait true", "kind 1, stale, some whole true, some wait true", "kind 1, stale, some whole false, some wait true",
		"kind 1, well, some whole true, some wait true", "kind 1, whole and well, some whole true, some wait true", "kind 1, gone, some whole true, some wait true", "kind 3, stale, some whole true, some wait true", "kind 3, stale, some whole false, some wait true",
		"kind 3, whole, some whole true, some wait true", "kind 3, well, some whole true, some wait true", "kind 6, whole, some whole true, some wait true", "kind 6, gone, some whole true, some wait true", "kind 6, whole and well, some whole true, some wait true",
	} {
		if met[what] < 5 {
			t.Errorf("%s: only %d times", what, met[what])
		}
	}
}

// short are the steps of short scripts, of two members whose hosts answer in order.
var short = []func(g *game, k int){
	func(g *game, k int) { g.rejoin(k) },
	func(g *game, k int) { g.lost(k) },
	func(g *game, k int) { g.reply(k, 0) },
	func(g *game, k int) { g.reply(k, 5) },
	func(g *game, k int) { g.trust(k) },
	func(g *game, k int) { g.do(pick(g.d, kinds...)); g.met["operations"]++ },
}

// rejoin lets a member that is out join, and be open.
func (g *game) rejoin(k int) {
	g.t.Helper()
	if g.join(k) != api.OK {
		return
	}
	*g.hosts[k] = host{}
	for b := g.hosts[k].next(4096); b != nil; b = g.hosts[k].next(4096) {
		g.hear(k, b)
		g.hosts[k].take(g.t, g.say(k))
	}
}

// reply answers the first request of a member that is not answered.
func (g *game) reply(k int, code uint32) {
	g.t.Helper()
	h := g.hosts[k]
	if h.take(g.t, g.say(k)); len(h.requests) > 0 && g.m.Look().Members[k] != api.MemberOut {
		g.hear(k, h.answer(0, code))
	}
}

// P24.2 to P24.9: all short scripts of two members, one of which is whole at first and the other one stale; of the operations the kinds are thrown for.
func TestShortScripts(t *testing.T) {
	d := dice(42)
	met := map[string]int{}
	const steps = 4
	for way := range 12 * 12 * 12 * 12 {
		g := &game{desk: newDesk(t, fmt.Sprint("script ", way), aPlan(2)), d: &d, hosts: []*host{{}, {}}, met: met}
		g.rejoin(0)
		g.write(300, []byte("x"))
		g.reply(0, 0)
		g.rejoin(1)
		for range steps {
			short[way%6](g, way/6%2)
			way /= 12
		}
		g.done()
	}
	if met["operations"] < 1000 {
		t.Error("only", met["operations"], "operations")
	}
}

// R1: bytes that nobody would say: every call ends.
func TestThrownBytes(t *testing.T) {
	d := dice(43)
	for r := range 1500 {
		x := newDesk(t, fmt.Sprint("bytes ", r), aPlan(2))
		for k := range 2 {
			x.join(k)
			if d.bool() {
				x.hear(k, greetingBytes(3))
			}
			if d.bool() {
				x.hear(k, startBytes(4096))
			}
		}
		for range 10 {
			k := pick(&d, 0, 1, 0, 1, d.below(100)-50)
			b := make([]byte, d.below(60))
			for i := range b {
				b[i] = pick(&d, 0, 0, 0, 1, 3, byte(d.below(256)))
			}
			switch d.below(6) {
			case 0:
				x.join(k)
			case 1:
				x.say(k)
			case 2:
				x.hear(k, greetingBytes(3))
			case 3:
				x.do(pick(&d, kinds...))
			default:
				x.hear(k, b)
			}
		}
	}
}
