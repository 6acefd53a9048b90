package tests

import (
	"fmt"
	"math"
	"math/rand"
	"slices"
	"strconv"
	"strings"
	"testing"

	"loop.example/g00574/impl"
)

const (
	maxTape = 12
	// Two talk to one: what the third one says may be there ahead of what the second one does.
	bothText = "b>a{m(int).c>a{n(text).end}}"
)

func playOf(plan []impl.Node, role string, table impl.Machine) impl.Play {
	return impl.Play{Plan: plan, Role: role, Table: table}
}

func copyOfPlay(p impl.Play) impl.Play {
	return impl.Play{Plan: slices.Clone(p.Plan), Role: p.Role, Table: copyOf(p.Table)}
}

func samePlay(a impl.Play, b impl.Play) bool {
	return slices.Equal(a.Plan, b.Plan) && a.Role == b.Role && sameMachine(a.Table, b.Table)
}

// truePlay is that of a role which does its own part.
func truePlay(plan []impl.Node, role string) impl.Play {
	return playOf(plan, role, impl.MachineOf(impl.PartOf(plan, role).Part).Machine)
}

func says(peer string, label string, sort int64) impl.Act {
	return impl.Act{Kind: impl.StSend, Peer: peer, Label: label, Sort: sort}
}

func hears(peer string, label string, sort int64) impl.Act {
	return impl.Act{Kind: impl.StRecv, Peer: peer, Label: label, Sort: sort}
}

func numbers(l ...int64) []int64 {
	return l
}

func openPlay(acts ...impl.Act) impl.PlayOut {
	return impl.PlayOut{Verdict: impl.VdOpen, Acts: acts}
}

func passPlay(acts ...impl.Act) impl.PlayOut {
	return impl.PlayOut{Verdict: impl.VdPass, Acts: acts}
}

// brokenPlay: the last one of the acts is the one that is broken.
func brokenPlay(at int64, acts ...impl.Act) impl.PlayOut {
	return impl.PlayOut{Verdict: impl.VdBroken, At: at, Kind: acts[len(acts)-1].Kind, Acts: acts}
}

func ownTapeRight(tape []int64) bool {
	return len(tape) <= 12 && !slices.ContainsFunc(tape, func(n int64) bool { return n < 0 || n >= 400 })
}

func ownPlayRight(p impl.Play) bool {
	roles, _, sound := ownMachines(p.Plan)
	return sound && slices.Contains(roles, p.Role) && ownMachineRight(p.Table)
}

// ownPlay goes through a tape by the words of chapter 8.
func ownPlay(p impl.Play, tape []int64) impl.PlayOut {
	if len(tape) > 400 {
		return impl.PlayOut{Code: impl.ErrSize}
	}
	if !ownPlayRight(p) || !ownTapeRight(tape) {
		return impl.PlayOut{Code: impl.ErrForm}
	}
	roles, machines, _ := ownMachines(p.Plan)
	played := slices.Index(roles, p.Role)
	own, led := machines[played], machines[played].Start
	machines[played] = p.Table
	run := runOf(p.Plan, make([]int64, len(roles)))
	run.States[played] = p.Table.Start
	out := impl.PlayOut{Verdict: impl.VdOpen}
	for i, number := range tape {
		if number >= 100 {
			if fault := ownFault(run.Net, number/100, number%100); fault.Code == impl.OK {
				run.Net = fault.Net
			}
			continue
		}
		who := int(number) % len(roles)
		next := ownGoesOn(run, roles[who], who, machines[who], number/int64(len(roles)))
		if next.Code != impl.OK {
			continue
		}
		run = next.Run
		if who != played {
			continue
		}
		act := next.Events[0].Act
		out.Acts = append(out.Acts, act)
		if led = ownStep(own, led, act); led < 0 {
			out.Verdict, out.At, out.Kind = impl.VdBroken, int64(i), act.Kind
			return out
		}
	}
	if len(run.Net) == 0 && ownAllEnded(run, machines) {
		out.Verdict = impl.VdPass
	}
	return out
}

// ownGoesOn leaves out what an StSend without Edges, or to the role itself, does: nothing.
func ownGoesOn(run impl.Run, role string, who int, m impl.Machine, choice int64) impl.RunOut {
	state := m.States[run.States[who]]
	if state.Kind == impl.StSend && (state.Peer == role || len(ownActs(m, run.States[who])) == 0) {
		return impl.RunOut{Code: impl.ErrNone}
	}
	return ownStepBy(run, role, who, m, choice)
}

func ownAllEnded(run impl.Run, machines []impl.Machine) bool {
	for i, m := range machines {
		if m.States[run.States[i]].Kind != impl.StEnd {
			return false
		}
	}
	return true
}

func shownPlay(p impl.Play, tape []int64) string {
	return fmt.Sprintf("%.400s", fmt.Sprintf("%v, %q as %s by %v", tape, drawn(p.Plan), p.Role, p.Table))
}

func samePlayOut(a impl.PlayOut, b impl.PlayOut) bool {
	return a.Verdict == b.Verdict && a.At == b.At && a.Kind == b.Kind && a.Code == b.Code && slices.Equal(a.Acts, b.Acts)
}

func wantPlay(t *testing.T, what string, got impl.PlayOut, want impl.PlayOut) {
	t.Helper()
	if !samePlayOut(got, want) {
		t.Errorf("%.500s: got %+v, want %+v", what, got, want)
	}
}

// playInRooms lays the lists of a Play into longer ones: who puts something right behind them changes what is not their own.
func playInRooms(p impl.Play) (laid impl.Play, rooms impl.Play) {
	rooms = copyOfPlay(p)
	rooms.Plan = append(rooms.Plan, endNode(), recNode("stay"))
	rooms.Table.States = append(rooms.Table.States, sendState("stay"))
	rooms.Table.Edges = append(rooms.Table.Edges, edgeTo(7, "stay", 1, 7))
	laid = playOf(rooms.Plan[:len(p.Plan)], p.Role, rooms.Table)
	laid.Table.States, laid.Table.Edges = rooms.Table.States[:len(p.Table.States)], rooms.Table.Edges[:len(p.Table.Edges)]
	return laid, rooms
}

// holdsPlay asks PlayTape and Fails, and whether what is handed in stays as it is.
func holdsPlay(t *testing.T, what string, p impl.Play, tape []int64) impl.PlayOut {
	t.Helper()
	laid, rooms := playInRooms(p)
	before := copyOfPlay(rooms)
	tapeRoom := append(slices.Clone(tape), 77)
	laidTape, tapeBefore := tapeRoom[:len(tape)], slices.Clone(tapeRoom)
	got, want := impl.PlayTape(laid, laidTape), ownPlay(p, tape)
	wantPlay(t, what+": "+shownPlay(p, tape), got, want)
	if fails := impl.Fails(laid, laidTape); fails != (want.Verdict == impl.VdBroken) {
		t.Errorf("%s: Fails: got %v: %s", what, fails, shownPlay(p, tape))
	}
	if !samePlay(rooms, before) || !slices.Equal(tapeRoom, tapeBefore) {
		t.Errorf("%s: what is handed in, or what is behind it, has been changed: %s", what, shownPlay(p, tape))
	}
	return got
}

// holdsPromise10: what is told to be broken is so, at that number of the tape and no earlier one, whatever comes behind it.
func holdsPromise10(t *testing.T, what string, p impl.Play, tape []int64) impl.PlayOut {
	t.Helper()
	out := holdsPlay(t, what, p, tape)
	own := truePlay(p.Plan, p.Role).Table
	count := int64(len(out.Acts))
	if out.Verdict != impl.VdBroken {
		if out.At != 0 || out.Kind != 0 || impl.Follow(own, out.Acts) < 0 || impl.Watch(own, out.Acts) != -1 {
			t.Errorf("%s: it should be broken: %+v of %s", what, out, shownPlay(p, tape))
		}
		return out
	}
	if sameMachine(p.Table, own) {
		t.Errorf("%s: who does their own part is told to have broken it: %+v of %s", what, out, shownPlay(p, tape))
	}
	if count == 0 || impl.Follow(own, out.Acts[:count-1]) < 0 || impl.Follow(own, out.Acts) != -count || impl.Watch(own, out.Acts) != count-1 {
		t.Errorf("%s: the last one of the acts should be the only one that is broken: %+v of %s", what, out, shownPlay(p, tape))
		return out
	}
	if out.Kind != out.Acts[count-1].Kind || tape[out.At] >= 100 {
		t.Errorf("%s: no act of the Kind at that number: %+v of %s", what, out, shownPlay(p, tape))
	}
	wantPlay(t, what+": nothing behind it", impl.PlayTape(p, tape[:out.At+1]), out)
	ahead := impl.PlayTape(p, tape[:out.At])
	if ahead.Verdict == impl.VdBroken || !slices.Equal(ahead.Acts, out.Acts[:count-1]) {
		t.Errorf("%s: it is broken earlier: %+v, then %+v", what, ahead, out)
	}
	return out
}

func TestTapeRight(t *testing.T) {
	full := numbers(0, 399, 1, 398, 99, 100, 199, 200, 299, 300, 0, 399)
	for _, c := range []struct {
		what  string
		tape  []int64
		right bool
	}{
		{"none", nil, true},
		{"no number", numbers(), true},
		{"0", numbers(0), true},
		{"399", numbers(399), true},
		{"400", numbers(400), false},
		{"401", numbers(401), false},
		{"below 0", numbers(-1), false},
		{"far below 0", numbers(math.MinInt64), false},
		{"far above", numbers(math.MaxInt64), false},
		{"a number that wraps round", numbers(1 << 32), false},
		{"MaxTape less 1", full[:11], true},
		{"MaxTape", full, true},
		{"MaxTape and one", append(slices.Clone(full), 0), false},
		{"MaxTape and two", make([]int64, 14), false},
		{"MaxList", make([]int64, impl.MaxList), false},
		{"MaxList and one", make([]int64, impl.MaxList+1), false},
		{"very many", make([]int64, 100000), false},
	} {
		if got := impl.TapeRight(c.tape); got != c.right || ownTapeRight(c.tape) != c.right {
			t.Errorf("%s: TapeRight: got %v", c.what, got)
		}
	}
	for i := range full {
		for _, wrong := range numbers(-1, 400, math.MinInt64, math.MaxInt64) {
			turned := slices.Clone(full)
			turned[i] = wrong
			if impl.TapeRight(turned) {
				t.Errorf("TapeRight(%v): got true", turned)
			}
		}
	}
	if impl.MaxTape != maxTape || len(full) != maxTape {
		t.Errorf("MaxTape is %d", impl.MaxTape)
	}
}

// somePlays are Plays of which it is known whether they are right: each edge of what is.
func somePlays(t testing.TB) []struct {
	what  string
	p     impl.Play
	right bool
} {
	back, round := readPlan(t, backText), readPlan(t, roundText)
	clash := readPlan(t, clashText)
	own := truePlay(back, "a").Table
	end := machineOf(0, states(endState()))
	turned := func(turn func(m *impl.Machine)) impl.Machine {
		m := copyOf(own)
		turn(&m)
		return m
	}
	return []struct {
		what  string
		p     impl.Play
		right bool
	}{
		{"nothing at all", impl.Play{}, false},
		{"no plan", playOf(nil, "a", own), false},
		{"an empty plan", playOf([]impl.Node{}, "a", own), false},
		{"a plan that is not right", playOf(rowOf(back, nodes(endNode())), "a", own), false},
		{"a plan that ends too early", playOf(back[:len(back)-1], "a", own), false},
		{"a part", playOf(impl.PartOf(back, "a").Part, "b", own), false},
		{"a plan that is right and not Sound", playOf(clash, "a", own), false},
		{"one that is right and not Sound, of who has no part", playOf(clash, "c", own), false},
		{"a plan without roles", playOf(readPlan(t, "end"), "a", own), false},
		{"a plan without roles, and no Role", playOf(readPlan(t, "rec x.end"), "", end), false},
		{"a plan of 40 Nodes", playOf(wideRow(40), ownRoles(wideRow(40))[0], own), true},
		{"a plan of 41 Nodes", playOf(wideRow(41), ownRoles(wideRow(40))[0], own), false},
		{"a plan of more than MaxList Nodes", playOf(slices.Repeat(back, 60), "a", own), false},
		{"the first role", playOf(back, "a", own), true},
		{"the last role", playOf(back, "b", own), true},
		{"nobody", playOf(back, "c", own), false},
		{"a label", playOf(back, "go", own), false},
		{"the Name of an NdRec", playOf(round, "x", own), false},
		{"a name that begins as a role", playOf(back, "aa", own), false},
		{"no name: nothing", playOf(back, "", own), false},
		{"no name: a capital", playOf(back, "A", own), false},
		{"no name: a blank", playOf(back, "a ", own), false},
		{"no name: a line feed", playOf(back, "a\n", own), false},
		{"no name: 21 bytes", playOf(back, strings.Repeat("a", 21), own), false},
		{"no name: more than MaxBytes bytes", playOf(back, strings.Repeat("a", impl.MaxBytes+1), own), false},
		{"no Table", playOf(back, "a", impl.Machine{}), false},
		{"an empty Table", playOf(back, "a", machineOf(0, states())), false},
		{"Edges alone", playOf(back, "a", impl.Machine{Edges: own.Edges}), false},
		{"no more than an end", playOf(back, "a", end), true},
		{"no more than an end of the other one", playOf(back, "b", end), true},
		{"the other one's machine", playOf(back, "a", truePlay(back, "b").Table), true},
		{"another plan's machine", playOf(round, "b", truePlay(impl.DeskPlan(), "b").Table), true},
		{"Start below 0", playOf(back, "a", turned(func(m *impl.Machine) { m.Start = -1 })), false},
		{"Start is the last one", playOf(back, "a", turned(func(m *impl.Machine) { m.Start = 4 })), true},
		{"Start behind the last one", playOf(back, "a", turned(func(m *impl.Machine) { m.Start = 5 })), false},
		{"a Peer that is no name", playOf(back, "a", turned(func(m *impl.Machine) { m.States[1].Peer = "B" })), false},
		{"a Peer that is nobody", playOf(back, "a", turned(func(m *impl.Machine) { m.States[1].Peer = "zz" })), true},
		{"a Peer that is the Role", playOf(back, "a", turned(func(m *impl.Machine) { m.States[0].Peer = "a" })), true},
		{"a Peer and a label that are no names of a plan", playOf(back, "a", machineOf(0, states(sendState("end")), edgeTo(0, "rec", 0, 0))), true},
		{"a Kind of 3", playOf(back, "a", turned(func(m *impl.Machine) { m.States[0].Kind = 3 })), false},
		{"an StEnd with a Peer", playOf(back, "a", turned(func(m *impl.Machine) { m.States[4].Peer = "b" })), false},
		{"a Sort of 3", playOf(back, "a", turned(func(m *impl.Machine) { m.Edges[0].Sort = 3 })), false},
		{"Edges that do not rise", playOf(back, "a", turned(func(m *impl.Machine) { slices.Reverse(m.Edges) })), false},
		{"an Edge to nowhere", playOf(back, "a", turned(func(m *impl.Machine) { m.Edges[0].To = 5 })), false},
		{"no Edges", playOf(back, "a", impl.Machine{States: own.States}), true},
		{"40 States", playOf(back, "a", circle(40)), true},
		{"41 States", playOf(back, "a", circle(41)), false},
		{"80 Edges", playOf(back, "a", fan(80)), true},
		{"81 Edges", playOf(back, "a", fan(81)), false},
		{"more than MaxList States", playOf(back, "a", circle(impl.MaxList+1)), false},
		{"more than MaxList Edges", playOf(back, "a", fan(impl.MaxList+1)), false},
	}
}

// tapesNearby are right ones and wrong ones.
func tapesNearby() [][]int64 {
	return [][]int64{
		nil, {}, {0}, {1}, {99}, {100}, {399}, {0, 1, 0, 1, 0, 1}, {2, 3, 200, 1, 300, 1, 101, 0}, slices.Repeat([]int64{0, 1, 1}, 4), slices.Repeat([]int64{399}, maxTape),
		{-1}, {400}, {0, 1, 400}, {math.MinInt64}, {math.MaxInt64}, make([]int64, maxTape+1), slices.Repeat([]int64{-1}, maxTape+1),
		make([]int64, impl.MaxList), make([]int64, impl.MaxList+1), slices.Repeat([]int64{-1}, impl.MaxList+1), slices.Repeat([]int64{400}, 5000),
	}
}

func TestPlayRight(t *testing.T) {
	for _, c := range somePlays(t) {
		before := copyOfPlay(c.p)
		if got := impl.PlayRight(c.p); got != c.right || ownPlayRight(c.p) != c.right {
			t.Errorf("%s: PlayRight: got %v", c.what, got)
		}
		if !samePlay(c.p, before) {
			t.Errorf("%s: the Play has been changed", c.what)
		}
		for _, tape := range tapesNearby() {
			holdsPlay(t, c.what, c.p, tape)
		}
	}
}

// Which fault is told, and that nothing is told beside it: also where a part of the tape could be played, and would be broken.
func TestPlayTapeCodes(t *testing.T) {
	plan := readPlan(t, roundText)
	right := playOf(plan, "a", machineOf(0, states(sendState("b"), endState()), edgeTo(0, "zzz", 0, 1)))
	wrong := playOf(plan, "c", right.Table)
	clash := playOf(readPlan(t, clashText), "a", right.Table)
	table := playOf(plan, "a", impl.Machine{})
	if !impl.Fails(right, numbers(0)) {
		t.Error("Fails: got false of what is broken")
	}
	for _, c := range []struct {
		what string
		p    impl.Play
		tape []int64
		code int64
	}{
		{"a number below 0", right, numbers(-1), impl.ErrForm},
		{"a number of 400", right, numbers(400), impl.ErrForm},
		{"a number of 400 behind what is broken", right, numbers(0, 400), impl.ErrForm},
		{"a number below 0 behind what is broken", right, numbers(0, 1, -1), impl.ErrForm},
		{"13 numbers", right, make([]int64, 13), impl.ErrForm},
		{"MaxList numbers", right, make([]int64, impl.MaxList), impl.ErrForm},
		{"MaxList and one", right, make([]int64, impl.MaxList+1), impl.ErrSize},
		{"MaxList and one that are wrong", right, slices.Repeat(numbers(-1), impl.MaxList+1), impl.ErrSize},
		{"nobody", wrong, numbers(0), impl.ErrForm},
		{"nobody, and no number", wrong, nil, impl.ErrForm},
		{"nobody, and a wrong number", wrong, numbers(400), impl.ErrForm},
		{"nobody, and MaxList numbers", wrong, make([]int64, impl.MaxList), impl.ErrForm},
		{"nobody, and MaxList and one", wrong, make([]int64, impl.MaxList+1), impl.ErrSize},
		{"not Sound", clash, numbers(0), impl.ErrForm},
		{"not Sound, and MaxList and one", clash, make([]int64, impl.MaxList+1), impl.ErrSize},
		{"no Table", table, numbers(0), impl.ErrForm},
		{"no Table, and MaxList and one", table, make([]int64, impl.MaxList+1), impl.ErrSize},
		{"nothing at all", impl.Play{}, nil, impl.ErrForm},
		{"nothing at all, and far too many", impl.Play{}, make([]int64, 5000), impl.ErrSize},
		{"too long a plan", playOf(slices.Repeat(plan, 100), "a", right.Table), numbers(0), impl.ErrForm},
		{"too long a Role", playOf(plan, strings.Repeat("a", impl.MaxBytes+1), right.Table), numbers(0), impl.ErrForm},
		{"too long a Table", playOf(plan, "a", circle(impl.MaxList+1)), numbers(0), impl.ErrForm},
	} {
		wantPlay(t, c.what, impl.PlayTape(c.p, c.tape), impl.PlayOut{Code: c.code})
		holdsPlay(t, c.what, c.p, c.tape)
		if impl.Fails(c.p, c.tape) {
			t.Errorf("%s: Fails: got true", c.what)
		}
	}
}

// plays holds each answer against the one that is written beside it, and against the rules one by one.
func plays(t *testing.T, cases []struct {
	what string
	p    impl.Play
	tape []int64
	want impl.PlayOut
}) {
	t.Helper()
	for _, c := range cases {
		wantPlay(t, c.what, impl.PlayTape(c.p, c.tape), c.want)
		if got := impl.Fails(c.p, c.tape); got != (c.want.Verdict == impl.VdBroken) {
			t.Errorf("%s: Fails: got %v", c.what, got)
		}
		holdsPromise10(t, c.what, c.p, c.tape)
	}
}

func TestPromise10RolesInTurn(t *testing.T) {
	desk := impl.DeskPlan()
	a, b, c := truePlay(desk, "a"), truePlay(desk, "b"), truePlay(desk, "c")
	ask, stop, say := says("b", "ask", impl.SoInt), says("b", "stop", impl.SoNone), hears("b", "say", impl.SoText)
	round := numbers(0, 1, 1, 2, 2, 1, 1, 0)
	whole := append(slices.Clone(round), 3, 1, 1, 2)
	plays(t, []struct {
		what string
		p    impl.Play
		tape []int64
		want impl.PlayOut
	}{
		{"no number", a, nil, openPlay()},
		{"an empty tape", b, numbers(), openPlay()},
		{"the first choice", a, numbers(0), openPlay(ask)},
		{"the second choice", a, numbers(3), openPlay(stop)},
		{"a choice that goes round", a, numbers(6), openPlay(ask)},
		{"a choice that goes round to the second one", a, numbers(9), openPlay(stop)},
		{"the greatest number of the first role", a, numbers(99), openPlay(stop)},
		{"the one ahead of it", a, numbers(96), openPlay(ask)},
		{"the greatest number of the second role", b, numbers(0, 97), openPlay(hears("a", "ask", 1))},
		{"the greatest number of the third role", c, numbers(3, 1, 1, 98), passPlay(hears("b", "stop", 0))},
		{"who waits does nothing", a, numbers(1, 2, 4, 5, 97, 98), openPlay()},
		{"who is at its end does nothing", a, numbers(3, 0, 3, 1, 0, 1, 2, 0, 1, 2), passPlay(stop)},
		{"once round", a, round, openPlay(ask, say)},
		{"round and to the end, the first one", a, whole, passPlay(ask, say, stop)},
		{"round and to the end, the second one", b, whole, passPlay(hears("a", "ask", 1), says("c", "ask", 1), hears("c", "say", 2), says("a", "say", 2), hears("a", "stop", 0), says("c", "stop", 0))},
		{"round and to the end, the third one", c, whole, passPlay(hears("b", "ask", 1), says("b", "say", 2), hears("b", "stop", 0))},
		{"all but the last one", c, whole[:11], openPlay(hears("b", "ask", 1), says("b", "say", 2))},
		{"all at their end but for one who has yet to hear", a, numbers(3, 1, 1), openPlay(stop)},
	})
}

func TestPromise10Faults(t *testing.T) {
	plan := readPlan(t, roundText)
	hi, no := hears("a", "hi", impl.SoInt), hears("a", "no", impl.SoNone)
	b := truePlay(plan, "b")
	a := truePlay(plan, "a")
	sayHi, sayNo := says("b", "hi", impl.SoInt), says("b", "no", impl.SoNone)
	both := truePlay(readPlan(t, bothText), "a")
	m, n := hears("b", "m", impl.SoInt), hears("c", "n", impl.SoText)
	plays(t, []struct {
		what string
		p    impl.Play
		tape []int64
		want impl.PlayOut
	}{
		{"dropped", b, numbers(0, 100, 1), openPlay()},
		{"the last one dropped", b, numbers(0, 2, 101, 1, 1), openPlay(hi)},
		{"the first one dropped", b, numbers(0, 2, 100, 1, 1), passPlay(no)},
		{"dropped by a number greater than what is on its way", b, numbers(0, 2, 102, 1), passPlay(no)},
		{"dropped by the greatest number: 99 modulo two", b, numbers(0, 2, 199, 1, 1), openPlay(hi)},
		{"dropped by 99 modulo three", b, numbers(0, 0, 2, 199, 1, 1), passPlay(hi, no)},
		{"dropped, nothing on its way", b, numbers(100, 199, 2, 1, 150), passPlay(no)},
		{"doubled", b, numbers(0, 200, 1, 1, 2, 1), passPlay(hi, hi, no)},
		{"doubled, and one of them is left", b, numbers(2, 200, 1, 1), openPlay(no)},
		{"doubled, and one of them dropped", b, numbers(2, 200, 101, 1), passPlay(no)},
		{"doubled right behind itself", b, numbers(0, 2, 200, 1, 1, 1), passPlay(hi, hi, no)},
		{"doubled by a number greater than what is on its way", b, numbers(0, 2, 203, 1, 1), openPlay(hi, no)},
		{"doubled by the greatest number: 99 modulo two", b, numbers(0, 2, 299, 1, 1), openPlay(hi, no)},
		{"doubled, and there is no room", b, numbers(0, 0, 2, 200, 1, 1, 1), passPlay(hi, hi, no)},
		{"doubled, nothing on its way", b, numbers(200, 299, 2, 1, 200), passPlay(no)},
		{"doubled till there is no room: who says waits", a, numbers(0, 200, 200, 200, 2, 1, 2), openPlay(sayHi, sayNo)},
		{"swapped", b, numbers(0, 2, 300, 1, 1), openPlay(no)},
		{"swapped twice", b, numbers(0, 2, 300, 302, 1, 1), passPlay(hi, no)},
		{"the second one swapped", b, numbers(0, 0, 2, 301, 1, 1, 1), openPlay(hi, no)},
		{"the last one swapped: there is none behind it", b, numbers(0, 2, 301, 1, 1), passPlay(hi, no)},
		{"swapped by the greatest number: 99 modulo two", b, numbers(0, 2, 399, 1, 1), passPlay(hi, no)},
		{"swapped by 99 modulo three", b, numbers(0, 0, 2, 399, 301, 1, 1), openPlay(hi, no)},
		{"swapped, nothing on its way", b, numbers(300, 399, 2, 1, 300), passPlay(no)},
		{"swapped, though between others there is one behind it", both, numbers(1, 2, 300, 0, 0), passPlay(m, n)},
		{"all of them lost", b, numbers(0, 0, 2, 100, 100, 100, 100, 1), openPlay()},
		{"who says does not know what gets lost", a, numbers(0, 100, 0, 100, 2, 100), openPlay(sayHi, sayHi, sayNo)},
		{"the kinds one beside the other", b, numbers(0, 199, 0, 200, 299, 2, 399, 1, 1, 1), openPlay(hi, hi, hi)},
		{"what the other one lost comes to nobody", both, numbers(1, 100, 2, 0, 0), openPlay()},
	})
}

// sorted lays the Edges of a Machine in the order that is right.
func sorted(m impl.Machine) impl.Machine {
	slices.SortFunc(m.Edges, func(a, b impl.Edge) int {
		if a.From != b.From {
			return int(a.From - b.From)
		}
		return strings.Compare(a.Label, b.Label)
	})
	return m
}

func TestPromise10TablesThatSay(t *testing.T) {
	desk, round := impl.DeskPlan(), readPlan(t, roundText)
	ask, stop, say := says("b", "ask", impl.SoInt), says("b", "stop", impl.SoNone), hears("b", "say", impl.SoText)
	own := truePlay(desk, "a").Table
	turned := func(turn func(m *impl.Machine)) impl.Play {
		m := copyOf(own)
		turn(&m)
		return playOf(desk, "a", sorted(m))
	}
	hi := says("b", "hi", impl.SoInt)
	toB, end := sendState("b"), endState()
	four := playOf(round, "a", machineOf(0, states(toB, toB, toB, toB, end), edgeTo(0, "hi", 1, 1), edgeTo(1, "hi", 1, 2), edgeTo(2, "hi", 1, 3), edgeTo(3, "zzz", 0, 4)))
	label := turned(func(m *impl.Machine) { m.Edges[1].Label = "zzz" })
	sort := turned(func(m *impl.Machine) { m.Edges[0].Sort = impl.SoText })
	peer := turned(func(m *impl.Machine) { m.States[0].Peer = "c" })
	nobody := turned(func(m *impl.Machine) { m.States[0].Peer = "zz" })
	itself := turned(func(m *impl.Machine) { m.States[0].Peer = "a" })
	more := turned(func(m *impl.Machine) {
		m.States = append(m.States, toB)
		m.Edges[0].To = 3
		m.Edges = append(m.Edges, edgeTo(3, "ask", 1, 1))
	})
	unused := turned(func(m *impl.Machine) {
		m.States = append(m.States, toB)
		m.Edges = append(m.Edges, edgeTo(3, "zzz", 1, 3))
	})
	saysForHears := turned(func(m *impl.Machine) { m.States[1].Kind = impl.StSend })
	hearsForSays := turned(func(m *impl.Machine) { m.States[0].Kind = impl.StRecv })
	bare := turned(func(m *impl.Machine) { m.Edges = m.Edges[2:] })
	bareLater := turned(func(m *impl.Machine) { m.States[1].Kind, m.Edges = impl.StSend, m.Edges[:2] })
	itselfLater := turned(func(m *impl.Machine) { m.States[1] = sendState("a") })
	behindEnd := turned(func(m *impl.Machine) {
		m.States[2], m.Edges = toB, append(m.Edges, edgeTo(2, "stop", 0, 2))
	})
	later := turned(func(m *impl.Machine) { m.Start = 1 })
	endOnly := playOf(desk, "a", machineOf(0, states(end)))
	plays(t, []struct {
		what string
		p    impl.Play
		tape []int64
		want impl.PlayOut
	}{
		{"its own machine", playOf(desk, "a", own), numbers(3, 1, 1, 2), passPlay(stop)},
		{"another Label", label, numbers(3), brokenPlay(0, says("b", "zzz", 0))},
		{"another Label, later in the tape", label, numbers(1, 2, 100, 3), brokenPlay(3, says("b", "zzz", 0))},
		{"another Label, and the other choice", label, numbers(0), openPlay(ask)},
		{"another Label, once round", label, numbers(0, 1, 1, 2, 2, 1, 1, 0, 3, 1, 1, 2), brokenPlay(8, ask, say, says("b", "zzz", 0))},
		{"another Label, nothing more is done", label, numbers(3, 0, 3, 1, 100, 200, 0), brokenPlay(0, says("b", "zzz", 0))},
		{"another Label at the last number of MaxTape", label, numbers(1, 1, 1, 1, 1, 2, 2, 2, 100, 200, 300, 3), brokenPlay(11, says("b", "zzz", 0))},
		{"another Sort", sort, numbers(0), brokenPlay(0, says("b", "ask", impl.SoText))},
		{"another Sort, and the other choice", sort, numbers(3, 1, 1, 2), passPlay(stop)},
		{"another peer", peer, numbers(2, 0), brokenPlay(1, says("c", "ask", impl.SoInt))},
		{"a peer that is nobody", nobody, numbers(3), brokenPlay(0, says("zz", "stop", 0))},
		{"to the Role itself", itself, numbers(0, 3, 6, 9, 99), openPlay()},
		{"to the Role itself, and a fault", itself, numbers(0, 200, 300, 100, 1), openPlay()},
		{"one state more", more, numbers(0, 0), brokenPlay(1, ask, ask)},
		{"one state more, by the way around it", more, numbers(3, 1, 1, 2), passPlay(stop)},
		{"one state more that nothing leads to", unused, numbers(0, 1, 1, 2, 2, 1, 1, 0, 3, 1, 1, 2), passPlay(ask, say, stop)},
		{"it says where its part hears", saysForHears, numbers(0, 0), brokenPlay(1, ask, says("b", "say", impl.SoText))},
		{"it hears where its part says", hearsForSays, numbers(0, 3, 1, 2, 0), openPlay()},
		{"an StSend without Edges", bare, numbers(0, 3, 6, 99), openPlay()},
		{"an StSend without Edges, later", bareLater, numbers(0, 0, 3, 0, 1), openPlay(ask)},
		{"an StSend to the Role itself, later", itselfLater, numbers(0, 0, 3, 0, 1), openPlay(ask)},
		{"it says once more behind its end", behindEnd, numbers(3, 1, 0), brokenPlay(2, stop, stop)},
		{"it begins elsewhere", later, numbers(0, 3, 1), openPlay()},
		{"no more than an end", endOnly, numbers(0, 1, 2, 3), openPlay()},
		{"a full queue: what can not be said is not broken", four, numbers(0, 0, 0, 0, 2), openPlay(hi, hi, hi)},
		{"a full queue, and room again", four, numbers(0, 0, 0, 0, 1, 0), brokenPlay(5, hi, hi, hi, says("b", "zzz", 0))},
		{"a full queue, and one is dropped", four, numbers(0, 0, 0, 0, 100, 0), brokenPlay(5, hi, hi, hi, says("b", "zzz", 0))},
		{"a full queue by what is doubled", playOf(round, "a", machineOf(0, states(toB, toB, end), edgeTo(0, "hi", 1, 1), edgeTo(1, "zzz", 0, 2))), numbers(0, 200, 200, 0), openPlay(hi)},
	})
}

func TestPromise10TablesThatHear(t *testing.T) {
	both, round := readPlan(t, bothText), readPlan(t, roundText)
	m, n := hears("b", "m", impl.SoInt), hears("c", "n", impl.SoText)
	hi, no := hears("a", "hi", impl.SoInt), hears("a", "no", impl.SoNone)
	table := func(part string) impl.Machine { return machineRead(t, part) }
	plays(t, []struct {
		what string
		p    impl.Play
		tape []int64
		want impl.PlayOut
	}{
		{"its own machine", truePlay(both, "a"), numbers(2, 0, 1, 0, 0), passPlay(m, n)},
		{"the third one first", playOf(both, "a", table("c?{n(text).b?{m(int).end}}")), numbers(1, 2, 0, 0), brokenPlay(2, n)},
		{"the third one first, who has not said it yet", playOf(both, "a", table("c?{n(text).b?{m(int).end}}")), numbers(1, 0, 0), openPlay()},
		{"the third one alone", playOf(both, "a", table("b?{m(int).end}")), numbers(1, 0, 2, 0), openPlay(m)},
		{"the third one alone, and lost", playOf(both, "a", table("b?{m(int).end}")), numbers(1, 0, 2, 100), passPlay(m)},
		{"a Label that its Table does not expect", playOf(both, "a", table("b?{k(int).end}")), numbers(1, 0, 0), openPlay()},
		{"a Sort that its Table does not expect", playOf(both, "a", table("b?{m(text).end}")), numbers(1, 0, 0), openPlay()},
		{"no Edges", playOf(both, "a", machineOf(0, states(recvState("b")))), numbers(1, 0, 0), openPlay()},
		{"what its Table does not expect stays, and may go", playOf(both, "a", table("b?{k(int).end}")), numbers(1, 0, 100, 2, 100), openPlay()},
		{"more than its part expects, which nobody says", playOf(both, "a", table("b?{k(int).end,m(int).c?{l(none).end,n(text).end}}")), numbers(1, 2, 0, 0), passPlay(m, n)},
		{"the same once more, doubled", playOf(both, "a", table("rec x.b?{m(int).x}")), numbers(1, 200, 0, 0, 2), brokenPlay(3, m, m)},
		{"the same once more, not doubled", playOf(both, "a", table("rec x.b?{m(int).x}")), numbers(1, 0, 0, 2), openPlay(m)},
		{"behind the end of its part", playOf(round, "b", table("rec x.a?{hi(int).x,no(none).x}")), numbers(0, 2, 200, 1, 1, 1, 1), openPlay(hi, hi, no)},
		{"behind the end of its part, doubled and swapped", playOf(round, "b", table("rec x.a?{hi(int).x,no(none).x}")), numbers(0, 2, 200, 301, 1, 1, 1, 1), brokenPlay(6, hi, no, hi)},
		{"behind the end of its part, doubled", playOf(round, "b", table("rec x.a?{hi(int).x,no(none).x}")), numbers(2, 200, 1, 1), brokenPlay(3, no, no)},
		{"behind the end of its part, swapped", playOf(round, "b", table("rec x.a?{hi(int).x,no(none).x}")), numbers(0, 2, 300, 1, 1, 0), brokenPlay(4, no, hi)},
		{"its own machine, doubled", truePlay(round, "b"), numbers(2, 200, 1, 1), openPlay(no)},
		{"its own machine, swapped", truePlay(round, "b"), numbers(0, 2, 300, 1, 1, 0), openPlay(no)},
		{"from the Role itself", playOf(both, "a", table("a?{m(int).end}")), numbers(1, 2, 0, 0), openPlay()},
		{"from nobody", playOf(both, "a", table("zz?{m(int).end}")), numbers(1, 2, 0, 0), openPlay()},
		{"it says what nobody expects", playOf(both, "a", table("b!{m(int).end}")), numbers(1, 0), brokenPlay(1, says("b", "m", impl.SoInt))},
		{"no more than an end: what is said to it stays", playOf(round, "b", table("end")), numbers(2, 1, 1), openPlay()},
		{"no more than an end, and all is lost", playOf(round, "b", table("end")), numbers(0, 0, 100, 2, 100, 100), passPlay()},
	})
}

// What the Role says may not be expected by the others: these wait, and are not asked whether they do their part.
func TestPromise10TheOthersGoByTheirParts(t *testing.T) {
	plan := readPlan(t, toldText)
	c := playOf(plan, "c", machineRead(t, "b?{last(none).a!{bye(text).end},more(int).end}"))
	more, last, bye := hears("b", "more", impl.SoInt), hears("b", "last", impl.SoNone), says("a", "bye", impl.SoText)
	plays(t, []struct {
		what string
		p    impl.Play
		tape []int64
		want impl.PlayOut
	}{
		{"by the first choice", c, numbers(0, 1, 1, 2), openPlay(last)},
		{"by the first choice to the end", c, numbers(0, 1, 1, 2, 2, 0), passPlay(last, bye)},
		{"by the second choice", c, numbers(3, 1, 1, 2, 2, 2), openPlay(more)},
		{"by the second choice, then the first one", c, numbers(3, 1, 1, 2, 0, 1, 1, 2), openPlay(more)},
		{"the same, and what is left is lost", c, numbers(3, 1, 1, 2, 0, 1, 1, 100), openPlay(more)},
		{"what the first one says is lost, the others wait", c, numbers(0, 100, 1, 1, 2, 0), openPlay()},
		{"what the second one hears is out of order", c, numbers(3, 0, 300, 1, 1, 2, 1, 1, 2, 0), openPlay(last, bye)},
	})
}

// numberOf is the number of a tape by which a role makes a choice.
func numberOf(roles []string, role string, choice int) int64 {
	return int64(choice*len(roles) + slices.Index(roles, role))
}

// All short tapes of few numbers, of each kind, over Tables of each kind.
func TestPromise10EveryShortTape(t *testing.T) {
	verdicts := map[int64]int{}
	kinds := map[int64]int{}
	once, round := numbers(0, 1, 100, 200, 300), numbers(0, 1, 2, 100, 200, 300)
	for _, c := range []struct {
		plan   string
		role   string
		all    []int64
		long   int
		tables []string
	}{
		{onceText, "a", once, 4, []string{"end", "b!{l(none).end}", "b!{m(none).end}", "b!{l(int).end}", "c!{l(none).end}", "a!{l(none).end}", "b?{l(none).end}", "rec x.b!{l(none).x}"}},
		{onceText, "b", once, 5, []string{"end", "a?{l(none).end}", "a?{m(none).end}", "a!{l(none).end}", "a?{l(none).a?{l(none).end}}", "rec x.a?{l(none).x}"}},
		{roundText, "a", round, 4, []string{"rec x.b!{hi(int).x,no(none).end}", "b!{hi(int).b!{hi(int).end,no(text).end}}", "b!{no(none).b!{hi(int).end}}"}},
		{roundText, "b", round, 5, []string{"rec x.a?{hi(int).x,no(none).end}", "rec x.a?{hi(int).x,no(none).x}", "a?{hi(int).a!{hi(int).end},no(none).end}"}},
	} {
		plan := readPlan(t, c.plan)
		own := truePlay(plan, c.role).Table
		for _, part := range c.tables {
			p := playOf(plan, c.role, machineRead(t, part))
			var grow func(tape []int64)
			grow = func(tape []int64) {
				out := holdsPlay(t, part, p, tape)
				verdicts[out.Verdict]++
				kinds[out.Kind]++
				if broken := impl.Watch(own, out.Acts) >= 0; broken != (out.Verdict == impl.VdBroken) {
					t.Errorf("%q as %s by %q: %v: got %+v", c.plan, c.role, part, tape, out)
				}
				if len(tape) == c.long {
					return
				}
				for _, number := range c.all {
					grow(append(slices.Clone(tape), number))
				}
			}
			grow(nil)
		}
	}
	if verdicts[impl.VdOpen] < 1000 || verdicts[impl.VdPass] < 1000 || verdicts[impl.VdBroken] < 1000 || kinds[impl.StSend] < 1000 || kinds[impl.StRecv] < 50 {
		t.Errorf("too few of some: Verdicts %v, Kinds %v", verdicts, kinds)
	}
}

// anyFault is a number from 100 on, most often of a Msg that is there.
func anyFault(r *rand.Rand) int64 {
	if r.Intn(4) == 0 {
		return 100 + int64(r.Intn(300))
	}
	return int64(100*(1+r.Intn(3)) + r.Intn(4))
}

// anyTape has all numbers that a tape may have.
func anyTape(r *rand.Rand) []int64 {
	tape := make([]int64, r.Intn(maxTape+1))
	for i := range tape {
		tape[i] = int64(r.Intn(100))
		if r.Intn(4) == 0 {
			tape[i] = anyFault(r)
		}
	}
	return tape
}

// goodTape lets, at each number, a role go on that can, if all keep to their parts; faults may be between.
func goodTape(r *rand.Rand, plan []impl.Node, faults bool) []int64 {
	roles := impl.RolesOf(plan)
	run := impl.RunNew(plan).Run
	var tape []int64
	for len(tape) < maxTape {
		if faults && r.Intn(5) == 0 {
			tape = append(tape, anyFault(r))
			continue
		}
		can := impl.RunCan(run)
		if len(can) == 0 {
			break
		}
		role, choice := can[r.Intn(len(can))], r.Intn(5)
		run = impl.RunPick(run, role, int64(choice)).Run
		tape = append(tape, numberOf(roles, role, choice))
	}
	return tape
}

// crowdedTape doubles and swaps much, and lets that role go on more often than the others.
func crowdedTape(r *rand.Rand, plan []impl.Node, role string) []int64 {
	roles := impl.RolesOf(plan)
	tape := make([]int64, maxTape)
	for i := range tape {
		switch r.Intn(8) {
		case 0:
			tape[i] = int64(200 + r.Intn(4))
		case 1:
			tape[i] = int64(300 + r.Intn(4))
		case 2, 3, 4:
			tape[i] = numberOf(roles, role, r.Intn(4))
		default:
			tape[i] = numberOf(roles, roles[r.Intn(len(roles))], r.Intn(4))
		}
	}
	return tape
}

// turnedTable is another machine than that, and a right one.
func turnedTable(r *rand.Rand, own impl.Machine, role string) impl.Machine {
	m := copyOf(own)
	state, more := r.Intn(len(m.States)), int64(len(m.States))
	edge := &m.Edges[r.Intn(len(m.Edges))]
	talks := m.States[edge.From]
	switch r.Intn(11) {
	case 0:
		edge.Label = "zzz"
	case 1:
		edge.Sort = (edge.Sort + 1) % 3
	case 2:
		m.States[edge.From].Peer = []string{"a", "b", "c", "d", "nobody"}[r.Intn(5)]
	case 3:
		m.States[edge.From].Kind = impl.StSend + impl.StRecv - talks.Kind
	case 4:
		m.States[edge.From].Peer = role
	case 5:
		from := edge.From
		m.Edges = slices.DeleteFunc(m.Edges, func(e impl.Edge) bool { return e.From == from })
	case 6:
		// What is done there is done twice.
		m.States = append(m.States, talks)
		m.Edges = append(m.Edges, edgeTo(more, edge.Label, edge.Sort, edge.To))
		m.Edges[slices.Index(m.Edges, *edge)].To = more
	case 7:
		m.States = append(m.States, []impl.State{sendState("b"), recvState("b"), endState()}[r.Intn(3)])
		edge.To = more
	case 8:
		m.Start = int64(state)
	case 9:
		edge.To = int64(state)
	case 10:
		// All that is heard is heard again and again.
		for i, e := range m.Edges {
			if m.States[e.From].Kind == impl.StRecv {
				m.Edges[i].To = e.From
			}
		}
	}
	return sorted(m)
}

// greedyTable hears all that is ever said to the role, whenever it comes; nothing, if its part hears nothing.
func greedyTable(r *rand.Rand, own impl.Machine) impl.Machine {
	var peers []string
	m := impl.Machine{}
	for from := range int64(4) {
		for _, e := range own.Edges {
			taken := slices.ContainsFunc(m.Edges, func(other impl.Edge) bool { return other.From == from && other.Label == e.Label })
			if own.States[e.From].Kind == impl.StRecv && !taken {
				peers = append(peers, own.States[e.From].Peer)
				m.Edges = append(m.Edges, edgeTo(from, e.Label, e.Sort, int64(r.Intn(4))))
			}
		}
	}
	for range 4 {
		if len(peers) == 0 {
			return machineOf(0, states(endState()))
		}
		m.States = append(m.States, recvState(peers[r.Intn(len(peers))]))
	}
	return sorted(m)
}

// Whoever does their own part is never told to have broken it, whatever gets lost, doubled or mixed.
func TestPromise10OwnPartIsNeverBroken(t *testing.T) {
	r := rand.New(rand.NewSource(10))
	verdicts := map[int64]int{}
	acts, faults := 0, [4]int{}
	for _, plan := range soundPlans(200) {
		for _, role := range ownRoles(plan) {
			p := truePlay(plan, role)
			more := copyOfPlay(p)
			more.Table.States = append(more.Table.States, sendState("zz"))
			for _, tape := range [][]int64{anyTape(r), goodTape(r, plan, true), goodTape(r, plan, false), crowdedTape(r, plan, role)} {
				out := holdsPromise10(t, "its own part", p, tape)
				if out.Code != impl.OK || out.Verdict == impl.VdBroken {
					t.Errorf("got %+v of %s", out, shownPlay(p, tape))
				}
				wantPlay(t, "one state more that nothing leads to", impl.PlayTape(more, tape), out)
				verdicts[out.Verdict]++
				acts += len(out.Acts)
				for _, number := range tape {
					faults[number/100]++
				}
			}
		}
	}
	if verdicts[impl.VdOpen] < 300 || verdicts[impl.VdPass] < 100 || acts < 2000 || slices.Min(faults[:]) < 300 {
		t.Errorf("too few of some: Verdicts %v, %d acts, faults %v", verdicts, acts, faults)
	}
}

// What is told to be broken is so: all acts but the last one can be followed, the last one can't.
func TestPromise10BrokenIsSo(t *testing.T) {
	r := rand.New(rand.NewSource(101))
	verdicts, kinds, places, counts := map[int64]int{}, map[int64]int{}, map[int64]int{}, map[int]int{}
	for _, plan := range soundPlans(250) {
		for _, role := range ownRoles(plan) {
			own := truePlay(plan, role).Table
			for range 3 {
				p := playOf(plan, role, turnedTable(r, own, role))
				switch r.Intn(8) {
				case 0:
					p.Table = anyMachine(r)
				case 1, 2:
					p.Table = greedyTable(r, own)
				}
				for _, tape := range [][]int64{anyTape(r), goodTape(r, plan, true), goodTape(r, plan, false), crowdedTape(r, plan, role)} {
					out := holdsPromise10(t, "a turned part", p, tape)
					if out.Code != impl.OK {
						t.Fatalf("got %+v of %s", out, shownPlay(p, tape))
					}
					verdicts[out.Verdict]++
					kinds[out.Kind]++
					if out.Verdict == impl.VdBroken {
						places[out.At]++
						counts[len(out.Acts)]++
					}
				}
			}
		}
	}
	if verdicts[impl.VdOpen] < 500 || verdicts[impl.VdPass] < 50 || verdicts[impl.VdBroken] < 500 || kinds[impl.StSend] < 300 || kinds[impl.StRecv] < 50 {
		t.Errorf("too few of some: Verdicts %v, Kinds %v", verdicts, kinds)
	}
	if len(places) < 10 || len(counts) < 4 {
		t.Errorf("broken at %v, by the acts %v", places, counts)
	}
}

// Faults that tell a code, and roles that can do nothing, change nothing: a tape without them tells the same.
func TestPromise10CodesChangeNothing(t *testing.T) {
	plan := readPlan(t, roundText)
	label := truePlay(plan, "a")
	label.Table.Edges[1].Label = "yyy"
	for _, p := range []impl.Play{truePlay(plan, "a"), truePlay(plan, "b"), label} {
		for _, tape := range [][]int64{{0, 1, 2, 1}, {0, 0, 2, 1, 1, 1}, {2, 1}, {0, 300, 1, 2}} {
			short := impl.PlayTape(p, tape)
			// Ahead of all nothing is on its way, and the second role has nothing to hear.
			long := impl.PlayTape(p, append(numbers(100, 299, 1, 350), tape...))
			if short.Verdict == impl.VdBroken {
				short.At += 4
			}
			wantPlay(t, shownPlay(p, tape), long, short)
		}
	}
}

func TestPromise6Watch(t *testing.T) {
	m := machineRead(t, "c?{go(none).rec x.b!{l(int).c?{m(none).x,n(text).end}}}")
	start, say, hear, last := hears("c", "go", 0), says("b", "l", 1), hears("c", "m", 0), hears("c", "n", 2)
	long := []impl.Act{start}
	for len(long) < 100000 {
		long = append(long, say, hear)
	}
	with := func(count int, at int, a impl.Act) []impl.Act {
		acts := slices.Clone(long[:count])
		acts[at] = a
		return acts
	}
	for _, c := range []struct {
		what string
		m    impl.Machine
		acts []impl.Act
		want int64
	}{
		{"none", m, nil, -1},
		{"none at all", m, []impl.Act{}, -1},
		{"one", m, long[:1], -1},
		{"all of 59", m, long[:59], -1},
		{"all of 60", m, long[:60], -1},
		{"61", m, long[:61], -1},
		{"61 whose first one can't be followed", m, with(61, 0, say), -1},
		{"61 whose last one can't be followed", m, with(61, 60, say), -1},
		{"MaxList", m, long[:impl.MaxList], -1},
		{"MaxList and one", m, long[:impl.MaxList+1], -1},
		{"MaxList and one whose first one can't be followed", m, with(impl.MaxList+1, 0, say), -1},
		{"very many", m, long, -1},
		{"the only one", m, []impl.Act{say}, 0},
		{"the first of 60", m, with(60, 0, say), 0},
		{"the second of 60", m, with(60, 1, hear), 1},
		{"the middle one of 60", m, with(60, 29, hear), 29},
		{"the last of 60", m, with(60, 59, hear), 59},
		{"the last of two", m, with(2, 1, start), 1},
		{"two of 60: the first one counts", m, append(with(50, 20, say), slices.Repeat([]impl.Act{{}}, 10)...), 20},
		{"to the end", m, []impl.Act{start, say, last}, -1},
		{"behind the end", m, []impl.Act{start, say, last, say}, 3},
		{"nothing said", m, []impl.Act{start, {}}, 1},
		{"another Sort", m, []impl.Act{start, says("b", "l", 2)}, 1},
		{"another Label", m, []impl.Act{start, says("b", "ll", 1)}, 1},
		{"another Peer", m, []impl.Act{start, says("c", "l", 1)}, 1},
		{"another Kind", m, []impl.Act{start, hears("b", "l", 1)}, 1},
		{"an end alone", machineRead(t, "end"), nil, -1},
		{"an end alone, and an act", machineRead(t, "end"), []impl.Act{{}}, 0},
		{"another Start", machineOf(2, m.States, m.Edges...), []impl.Act{hear, say, start}, 2},
		{"another Start, from the first one", machineOf(2, m.States, m.Edges...), []impl.Act{start}, 0},
		{"not right: nothing", impl.Machine{}, []impl.Act{start}, -1},
		{"not right: nothing, and no act", impl.Machine{}, nil, -1},
		{"not right: Start", machineOf(4, m.States, m.Edges...), []impl.Act{start}, -1},
		{"not right: a Peer", machineOf(0, append(slices.Clone(m.States), sendState("B")), m.Edges...), []impl.Act{say}, -1},
		{"not right: too many States", circle(41), []impl.Act{{}}, -1},
		{"the greatest one", circle(40), []impl.Act{says("b", "l", 0), says("b", "l", 1), says("b", "l", 1)}, 2},
	} {
		beforeM, beforeActs := copyOf(c.m), slices.Clone(c.acts)
		if got := impl.Watch(c.m, c.acts); got != c.want {
			t.Errorf("Watch of %s: got %d, want %d", c.what, got, c.want)
		}
		if !sameMachine(c.m, beforeM) || !slices.Equal(c.acts, beforeActs) {
			t.Errorf("Watch of %s: what is handed in has been changed", c.what)
		}
	}
	for at := range 60 {
		if got := impl.Watch(m, with(60, at, impl.Act{})); got != int64(at) {
			t.Errorf("Watch of 60, the act %d turned: got %d", at, got)
		}
	}
}

// One act of a walk is turned: who watches finds it, or the first one behind it that can't be followed any more.
func TestPromise6WatchFindsTheFirst(t *testing.T) {
	r := rand.New(rand.NewSource(6))
	found := map[int64]int{}
	machines := slices.Repeat([]impl.Machine{machineRead(t, "c?{go(none).rec x.b!{l(int).c?{m(none).x}}}"), fan(80)}, 10)
	for _, plan := range manyPlans(400) {
		machines = append(machines, ownMachine(turnedToPart(plan)))
	}
	for _, m := range machines {
		acts := walk(r, m, r.Intn(61))
		if got := impl.Watch(m, acts); got != -1 {
			t.Errorf("Watch of a walk: got %d", got)
		}
		for i := range acts {
			turned := slices.Clone(acts)
			turned[i].Label = "zzz"
			if got := impl.Watch(m, turned); got != int64(i) {
				t.Errorf("Watch, the act %d turned: got %d", i, got)
			}
			found[int64(i)]++
			turned[i] = acts[r.Intn(len(acts))]
			first := impl.Watch(m, turned)
			if first != -1 && (first < int64(i) || impl.Follow(m, turned[:first]) < 0 || impl.Follow(m, turned[:first+1]) != -1-first) {
				t.Errorf("Watch(%v, %v): got %d", m, turned, first)
			}
			if first == -1 && impl.Follow(m, turned) < 0 {
				t.Errorf("Watch(%v, %v): finds none", m, turned)
			}
		}
	}
	if found[0] < 100 || found[30] < 5 {
		t.Errorf("too few of some: %d, %d", found[0], found[30])
	}
}

func textsOfPlay(p impl.Play) []string {
	texts := []string{p.Role}
	for _, n := range p.Plan {
		texts = append(texts, n.Name, n.Peer)
	}
	for _, s := range p.Table.States {
		texts = append(texts, s.Peer)
	}
	for _, e := range p.Table.Edges {
		texts = append(texts, e.Label)
	}
	return texts
}

func TestPlayNewMemory(t *testing.T) {
	plan := readPlan(t, "rec round.first>second{word(int).second>first{answer(text).round},last(none).end}")
	turned := truePlay(plan, strings.Clone("first"))
	turned.Table.Edges[0].Label = strings.Clone("bye")
	for i, p := range []impl.Play{truePlay(plan, strings.Clone("first")), truePlay(plan, strings.Clone("second")), turned} {
		tape := numbers(2, 1, 1, 0, 0, 200, 1, 1, 300, 100)
		about := "the play " + strconv.Itoa(i)
		before, tapeBefore, handed := copyOfPlay(p), slices.Clone(tape), textsOfPlay(p)
		first := impl.PlayTape(p, tape)
		if first.Code != impl.OK || len(first.Acts) < 3 {
			t.Fatalf("%s: got %+v", about, first)
		}
		kept := slices.Clone(first.Acts)
		for range 3 {
			next := impl.PlayTape(p, tape)
			wantPlay(t, about+", asked once more", next, impl.PlayOut{Verdict: first.Verdict, At: first.At, Kind: first.Kind, Acts: kept})
			for _, a := range next.Acts {
				if sharesAny([]string{a.Peer, a.Label}, handed) {
					t.Errorf("%s: an Act shares memory with what is handed in", about)
				}
			}
			clear(next.Acts[:cap(next.Acts)])
		}
		if !slices.Equal(first.Acts, kept) || !samePlay(p, before) || !slices.Equal(tape, tapeBefore) {
			t.Errorf("%s: two answers share their memory, or one with an argument", about)
		}
	}
}
