package tests

import (
	"fmt"
	"math"
	"math/rand"
	"slices"
	"strconv"
	"strings"
	"testing"

	"loop.example/g00574/impl"
)

const maxPicks = 60

const (
	onceText = "a>b{l(none).end}"
	backText = "a>b{go(int).b>a{yes(text).end,no(none).end},stop(none).end}"
	// The first one may say up to three ahead of who listens.
	roundText = "rec x.a>b{hi(int).x,no(none).end}"
	deskText  = "rec x.a>b{ask(int).b>c{ask(int).c>b{say(text).b>a{say(text).x}}},stop(none).b>c{stop(none).end}}"
	clashText = "a>b{l(none).b>c{x(none).end},m(none).end}"
	fourText  = "a>b{l(none).c>d{m(int).b>a{n(text).d>c{o(none).end}}}}"
	// The third one is not told which case it is till the second one talks to it.
	toldText = "rec x.a>b{more(int).b>c{more(int).x},last(none).b>c{last(none).c>a{bye(text).end}}}"
)

// readPlan is the plan of a text.
func readPlan(t testing.TB, text string) []impl.Node {
	t.Helper()
	read := impl.PlanRead(text)
	if read.Code != impl.OK {
		t.Fatalf("PlanRead(%q): got the code %d", text, read.Code)
	}
	return read.Plan
}

func runOf(plan []impl.Node, places []int64, net ...impl.Msg) impl.Run {
	return impl.Run{Plan: plan, States: places, Net: net}
}

func at(places ...int64) []int64 {
	return places
}

// saidMsg makes a Msg of its From, its To and its Label by letters, of a Sort that is told.
func saidMsg(text string, sort int64) impl.Msg {
	return impl.Msg{From: text[:1], To: text[1:2], Label: text[2:], Sort: sort}
}

func event(role string, kind int64, peer string, label string, sort int64) impl.Event {
	return impl.Event{Role: role, Act: impl.Act{Kind: kind, Peer: peer, Label: label, Sort: sort}}
}

// ownMachines tells the roles of a plan, and their machines by the words of the chapters 4 and 5; nothing, if it is not Sound.
func ownMachines(plan []impl.Node) ([]string, []impl.Machine, bool) {
	if !ownRight(plan) {
		return nil, nil, false
	}
	roles := ownRoles(plan)
	var machines []impl.Machine
	for _, role := range roles {
		part, ok := ownPart(plan, role)
		if !ok {
			return nil, nil, false
		}
		machines = append(machines, ownMachine(part))
	}
	return roles, machines, true
}

// ownRunRight asks each rule of chapter 7 by itself.
func ownRunRight(r impl.Run) bool {
	roles, machines, sound := ownMachines(r.Plan)
	if !sound || len(r.States) != len(roles) || !ownNetRight(r.Net) || r.Steps < 0 || r.Steps > 1000000 {
		return false
	}
	for i, state := range r.States {
		if state < 0 || state > int64(len(machines[i].States))-1 {
			return false
		}
	}
	for _, m := range r.Net {
		if !slices.Contains(roles, m.From) || !slices.Contains(roles, m.To) {
			return false
		}
	}
	return true
}

func ownNew(plan []impl.Node) impl.RunOut {
	if len(plan) > 400 {
		return impl.RunOut{Code: impl.ErrSize}
	}
	if !ownRight(plan) {
		return impl.RunOut{Code: impl.ErrForm}
	}
	roles, _, sound := ownMachines(plan)
	if !sound {
		return impl.RunOut{Code: impl.ErrClash}
	}
	// Each Start is the first State.
	return impl.RunOut{Run: runOf(plan, make([]int64, len(roles)))}
}

func ownPick(r impl.Run, role string, choice int64) impl.RunOut {
	if len(role) > 8000 {
		return impl.RunOut{Code: impl.ErrSize}
	}
	if !ownRunRight(r) || choice < 0 || choice > 1000000 {
		return impl.RunOut{Code: impl.ErrForm}
	}
	roles, machines, _ := ownMachines(r.Plan)
	number := slices.Index(roles, role)
	if number < 0 {
		return impl.RunOut{Code: impl.ErrNone}
	}
	return ownStepBy(r, role, number, machines[number], choice)
}

func ownStepBy(r impl.Run, role string, number int, m impl.Machine, choice int64) impl.RunOut {
	state := m.States[r.States[number]]
	if state.Kind == impl.StEnd {
		return impl.RunOut{Code: impl.ErrState}
	}
	if r.Steps == 1000000 {
		return impl.RunOut{Code: impl.ErrFull}
	}
	act := impl.Act{Kind: state.Kind, Peer: state.Peer}
	net := impl.NetOut{}
	if state.Kind == impl.StSend {
		acts := ownActs(m, r.States[number])
		act = acts[int(choice)%len(acts)]
		net = ownPut(r.Net, impl.Msg{From: role, To: act.Peer, Label: act.Label, Sort: act.Sort})
		if net.Code != impl.OK {
			return impl.RunOut{Code: net.Code}
		}
	} else {
		net = ownTake(r.Net, state.Peer, role)
		if net.Code != impl.OK {
			return impl.RunOut{Code: impl.ErrShort}
		}
		act.Label, act.Sort = net.Msg.Label, net.Msg.Sort
	}
	to := ownStep(m, r.States[number], act)
	if to < 0 {
		return impl.RunOut{Code: impl.ErrClash}
	}
	next := impl.Run{Plan: r.Plan, States: slices.Clone(r.States), Net: net.Net, Steps: r.Steps + 1}
	next.States[number] = to
	return impl.RunOut{Run: next, Events: []impl.Event{{Role: role, Act: act}}}
}

func ownCan(r impl.Run) []string {
	var roles []string
	if ownRunRight(r) {
		for _, role := range ownRoles(r.Plan) {
			if ownPick(r, role, 0).Code == impl.OK {
				roles = append(roles, role)
			}
		}
	}
	return roles
}

func ownDone(r impl.Run) bool {
	if !ownRunRight(r) || len(r.Net) > 0 {
		return false
	}
	_, machines, _ := ownMachines(r.Plan)
	for i, m := range machines {
		if m.States[r.States[i]].Kind != impl.StEnd {
			return false
		}
	}
	return true
}

func ownTape(r impl.Run, tape []int64) impl.RunOut {
	if len(tape) > 400 {
		return impl.RunOut{Code: impl.ErrSize}
	}
	if !ownRunRight(r) || len(tape) > 60 {
		return impl.RunOut{Code: impl.ErrForm}
	}
	for _, number := range tape {
		if number < 0 || number > 1000000 {
			return impl.RunOut{Code: impl.ErrForm}
		}
	}
	out := impl.RunOut{Run: r}
	roles, machines, _ := ownMachines(r.Plan)
	for _, number := range tape {
		if len(roles) == 0 {
			break
		}
		who := int(number) % len(roles)
		if next := ownStepBy(out.Run, roles[who], who, machines[who], int64(int(number)/len(roles))); next.Code == impl.OK {
			out.Run, out.Events = next.Run, append(out.Events, next.Events...)
		}
	}
	return out
}

func sameRun(a impl.Run, b impl.Run) bool {
	return slices.Equal(a.Plan, b.Plan) && slices.Equal(a.States, b.States) && slices.Equal(a.Net, b.Net) && a.Steps == b.Steps
}

func copyOfRun(r impl.Run) impl.Run {
	return impl.Run{Plan: slices.Clone(r.Plan), States: slices.Clone(r.States), Net: slices.Clone(r.Net), Steps: r.Steps}
}

// shown is short enough to be read.
func shown(out impl.RunOut) string {
	return fmt.Sprintf("%.300s", fmt.Sprintf("code %d, events %v, states %v, net %v, steps %d, plan %v", out.Code, out.Events, out.Run.States, out.Run.Net, out.Run.Steps, out.Run.Plan))
}

func wantRun(t *testing.T, what string, got impl.RunOut, want impl.RunOut) {
	t.Helper()
	if got.Code != want.Code || !sameRun(got.Run, want.Run) || !slices.Equal(got.Events, want.Events) {
		t.Errorf("%.200s: got %s; want %s", what, shown(got), shown(want))
	}
}

func wantCode(t *testing.T, what string, got impl.RunOut, code int64) {
	t.Helper()
	wantRun(t, what, got, impl.RunOut{Code: code})
}

// inRooms lays the lists of a Run into longer ones: who puts something right behind them changes what is not their own.
func inRooms(r impl.Run) (laid impl.Run, rooms impl.Run) {
	rooms = copyOfRun(r)
	rooms.Plan = append(rooms.Plan, endNode(), recNode("stay"))
	rooms.States = append(rooms.States, 77, 78)
	rooms.Net = append(rooms.Net, onWay("yzstay", "zystay")...)
	return impl.Run{Plan: rooms.Plan[:len(r.Plan)], States: rooms.States[:len(r.States)], Net: rooms.Net[:len(r.Net)], Steps: r.Steps}, rooms
}

func someTapes(r impl.Run) [][]int64 {
	mixed := make([]int64, maxPicks)
	for i := range mixed {
		mixed[i] = int64(i*i*7+len(r.Net)*3+int(r.Steps%5)) % 23
	}
	return [][]int64{
		nil, {}, {0}, {1}, {0, 1, 2, 3}, {3, 2, 1, 0}, {impl.MaxTime}, {impl.MaxTime, impl.MaxTime - 1, impl.MaxTime - 2},
		mixed, append(slices.Clone(mixed), 0), {-1}, {0, 1, -1}, {impl.MaxTime + 1}, {1, impl.MaxTime + 1, 0}, {math.MinInt64}, {math.MaxInt64},
		make([]int64, impl.MaxList), make([]int64, impl.MaxList+1), slices.Repeat([]int64{-1}, impl.MaxList+1),
	}
}

// holdsRun asks each call that takes a Run, with much that may come beside it, and whether the Run stays as it is.
func holdsRun(t *testing.T, what string, r impl.Run) {
	t.Helper()
	laid, rooms := inRooms(r)
	before := copyOfRun(rooms)
	if got, want := impl.RunRight(laid), ownRunRight(r); got != want {
		t.Errorf("%s: RunRight: got %v: %s", what, got, shown(impl.RunOut{Run: r}))
	}
	if got, want := impl.RunCan(laid), ownCan(r); !slices.Equal(got, want) {
		t.Errorf("%s: RunCan: got %q, want %q: %s", what, got, want, shown(impl.RunOut{Run: r}))
	}
	if got, want := impl.RunDone(laid), ownDone(r); got != want {
		t.Errorf("%s: RunDone: got %v: %s", what, got, shown(impl.RunOut{Run: r}))
	}
	for _, role := range append(ownRoles(r.Plan), "nobody", "", "A", "a ") {
		for _, choice := range []int64{0, 1, 2, 3, 4, 5, impl.MaxTime - 1, impl.MaxTime, impl.MaxTime + 1, -1, math.MinInt64, math.MaxInt64} {
			about := what + ": RunPick of " + strconv.Quote(role) + " and " + strconv.FormatInt(choice, 10)
			wantRun(t, about, impl.RunPick(laid, role, choice), ownPick(r, role, choice))
		}
	}
	for i, tape := range someTapes(r) {
		told := slices.Clone(tape)
		wantRun(t, what+": RunTape of the tape "+strconv.Itoa(i), impl.RunTape(laid, tape), ownTape(r, tape))
		if !slices.Equal(told, tape) {
			t.Errorf("%s: the tape has been changed: %v", what, tape)
		}
	}
	if !sameRun(rooms, before) {
		t.Errorf("%s: the Run, or what is behind its lists, has been changed: %v, then %v", what, before, rooms)
	}
}

// holdsPromise8 asks that whatever is done in a right Run leaves a right one, and that who is done has nobody who can go on.
func holdsPromise8(t *testing.T, r impl.Run) {
	t.Helper()
	can := impl.RunCan(r)
	if impl.RunDone(r) && len(can) > 0 {
		t.Errorf("done, and yet %q can go on: %s", can, shown(impl.RunOut{Run: r}))
	}
	for _, role := range impl.RolesOf(r.Plan) {
		for choice := range int64(5) {
			out := impl.RunPick(r, role, choice)
			if (out.Code == impl.OK) != slices.Contains(can, role) {
				t.Errorf("RunPick of %q tells %d, RunCan %q", role, out.Code, can)
			}
			if out.Code != impl.OK {
				wantCode(t, "what can't be done", out, out.Code)
			} else if !impl.RunRight(out.Run) || !ownRunRight(out.Run) || out.Run.Steps != r.Steps+1 || len(out.Events) != 1 {
				t.Errorf("RunPick(%q, %d) leaves what is not right: %s", role, choice, shown(out))
			}
		}
	}
}

func TestPromise8DeskRun(t *testing.T) {
	plan := impl.DeskPlan()
	ask, stop, say := event("a", impl.StSend, "b", "ask", impl.SoInt), event("a", impl.StSend, "b", "stop", impl.SoNone), event("c", impl.StSend, "b", "say", impl.SoText)
	r := impl.RunNew(plan)
	wantRun(t, "RunNew", r, impl.RunOut{Run: runOf(plan, at(0, 0, 0))})
	for i, c := range []struct {
		role   string
		choice int64
		want   impl.Event
		places []int64
		net    []impl.Msg
		can    []string
	}{
		{"a", 0, ask, at(1, 0, 0), []impl.Msg{saidMsg("abask", 1)}, []string{"b"}},
		{"b", 7, event("b", impl.StRecv, "a", "ask", 1), at(1, 1, 0), nil, []string{"b"}},
		{"b", 3, event("b", impl.StSend, "c", "ask", 1), at(1, 2, 0), []impl.Msg{saidMsg("bcask", 1)}, []string{"c"}},
		{"c", 0, event("c", impl.StRecv, "b", "ask", 1), at(1, 2, 1), nil, []string{"c"}},
		{"c", 0, say, at(1, 2, 0), []impl.Msg{saidMsg("cbsay", 2)}, []string{"b"}},
		{"b", 0, event("b", impl.StRecv, "c", "say", 2), at(1, 3, 0), nil, []string{"b"}},
		{"b", 1, event("b", impl.StSend, "a", "say", 2), at(1, 0, 0), []impl.Msg{saidMsg("basay", 2)}, []string{"a"}},
		{"a", 1, event("a", impl.StRecv, "b", "say", 2), at(0, 0, 0), nil, []string{"a"}},
		{"a", 999999, stop, at(2, 0, 0), []impl.Msg{saidMsg("abstop", 0)}, []string{"b"}},
		{"b", 0, event("b", impl.StRecv, "a", "stop", 0), at(2, 4, 0), nil, []string{"b"}},
		{"b", 0, event("b", impl.StSend, "c", "stop", 0), at(2, 5, 0), []impl.Msg{saidMsg("bcstop", 0)}, []string{"c"}},
		{"c", 0, event("c", impl.StRecv, "b", "stop", 0), at(2, 5, 2), nil, nil},
	} {
		about := fmt.Sprintf("the step %d", i)
		holdsRun(t, about, r.Run)
		next := impl.RunPick(r.Run, c.role, c.choice)
		want := impl.Run{Plan: plan, States: c.places, Net: c.net, Steps: int64(i + 1)}
		wantRun(t, about, next, impl.RunOut{Run: want, Events: []impl.Event{c.want}})
		if can := impl.RunCan(next.Run); !slices.Equal(can, c.can) || impl.RunDone(next.Run) != (c.can == nil) {
			t.Errorf("%s: RunCan: got %q, want %q; RunDone: %v", about, can, c.can, impl.RunDone(next.Run))
		}
		r = next
	}
	holdsRun(t, "the end", r.Run)
}

// rightRuns are Runs of which it is known whether they are right: each edge of what is, and what is right beside it.
func rightRuns(t testing.TB) []struct {
	what  string
	r     impl.Run
	right bool
} {
	back, four := readPlan(t, backText), readPlan(t, fourText)
	with := func(steps int64) impl.Run {
		return impl.Run{Plan: back, States: at(0, 0), Steps: steps}
	}
	go1, yes := saidMsg("abgo", 1), saidMsg("bayes", 2)
	all := []impl.Msg{}
	for _, two := range []string{"ab", "ac", "ad", "ba", "bc", "bd", "ca", "cb", "cd", "da", "db", "dc"} {
		all = append(all, saidMsg(two+"l", 0), saidMsg(two+"m", 1), saidMsg(two+"n", 2))
	}
	return []struct {
		what  string
		r     impl.Run
		right bool
	}{
		{"nothing at all", impl.Run{}, false},
		{"an empty plan", runOf([]impl.Node{}, nil), false},
		{"an empty plan with states", runOf(nil, at(0)), false},
		{"no roles", runOf(readPlan(t, "end"), nil), true},
		{"no roles, and an empty list", runOf(readPlan(t, "rec x.end"), at()), true},
		{"no roles, and a state", runOf(readPlan(t, "end"), at(0)), false},
		{"no roles, and a Msg", runOf(readPlan(t, "end"), nil, go1), false},
		{"a plan that is not right", runOf(nodes(endNode(), endNode()), nil), false},
		{"a plan of a message alone", runOf(nodes(msgNode("a", "b", 1)), at(0, 0)), false},
		{"a part", runOf(nodes(sendNode("b", 1), caseNode("l", 0), endNode()), at(0)), false},
		{"a plan of 40 Nodes", runOf(wideRow(40), ownNew(wideRow(40)).Run.States), true},
		{"a plan of 41 Nodes", runOf(wideRow(41), at(0, 0)), false},
		{"a plan of more than MaxList Nodes", runOf(slices.Repeat(back, 60), at(0, 0)), false},
		{"a plan that is not Sound", runOf(readPlan(t, clashText), at(0, 0, 0)), false},
		{"a plan that is not Sound, without states", runOf(readPlan(t, clashText), nil), false},
		{"a beginning", with(0), true},
		{"no states", runOf(back, nil), false},
		{"one state too few", runOf(back, at(0)), false},
		{"one state too many", runOf(back, at(0, 0, 0)), false},
		{"many states too many", runOf(back, make([]int64, impl.MaxList+1)), false},
		{"the last states", runOf(back, at(4, 4)), true},
		{"a state behind the last one", runOf(back, at(5, 0)), false},
		{"the other one's state behind the last one", runOf(back, at(0, 5)), false},
		{"a state below 0", runOf(back, at(-1, 0)), false},
		{"the other one's state below 0", runOf(back, at(0, -1)), false},
		{"states far off", runOf(back, at(math.MinInt64, math.MaxInt64)), false},
		{"the last states of four", runOf(four, at(2, 2, 2, 2)), true},
		{"a state behind the last one of four", runOf(four, at(2, 2, 2, 3)), false},
		{"a state that another one has", runOf(readPlan(t, deskText), at(2, 5, 2)), true},
		{"a state that another one has alone", runOf(readPlan(t, deskText), at(2, 5, 5)), false},
		{"a state that the second one has alone", runOf(readPlan(t, deskText), at(3, 5, 2)), false},
		{"one on its way", runOf(back, at(1, 0), go1), true},
		{"some that nobody expects", runOf(back, at(0, 0), saidMsg("abzzz", 2), yes), true},
		{"a full queue", runOf(back, at(0, 0), go1, go1, go1), true},
		{"full queues both ways", runOf(back, at(0, 0), go1, yes, go1, yes, go1, yes), true},
		{"a queue that is too long", runOf(back, at(0, 0), go1, go1, go1, go1), false},
		{"36 between four", runOf(four, at(0, 0, 0, 0), all...), true},
		{"37 between four", runOf(four, at(0, 0, 0, 0), append(all, all[0])...), false},
		{"more than MaxList", runOf(four, at(0, 0, 0, 0), slices.Repeat(all, 12)...), false},
		{"a Msg from nobody", runOf(back, at(0, 0), saidMsg("cbgo", 1)), false},
		{"a Msg to nobody", runOf(back, at(0, 0), saidMsg("acgo", 1)), false},
		{"a Msg from nobody behind others", runOf(back, at(0, 0), go1, yes, saidMsg("cbgo", 1)), false},
		{"a Msg to nobody ahead of others", runOf(back, at(0, 0), saidMsg("bcgo", 1), go1, yes), false},
		{"a Msg to the same one", runOf(back, at(0, 0), saidMsg("aago", 1)), false},
		{"a Msg without a Label", runOf(back, at(0, 0), impl.Msg{From: "a", To: "b"}), false},
		{"a Msg of no Sort", runOf(back, at(0, 0), saidMsg("abgo", 3)), false},
		{"a Msg of a Sort below 0", runOf(back, at(0, 0), saidMsg("abgo", -1)), false},
		{"a Msg of nothing", runOf(back, at(0, 0), impl.Msg{}), false},
		{"Steps below 0", with(-1), false},
		{"one Step", with(1), true},
		{"Steps of MaxTime less 1", with(impl.MaxTime - 1), true},
		{"Steps of MaxTime", with(impl.MaxTime), true},
		{"Steps of MaxTime and one more", with(impl.MaxTime + 1), false},
		{"Steps far below 0", with(math.MinInt64), false},
		{"Steps far above", with(math.MaxInt64), false},
	}
}

func TestPromise8RightRuns(t *testing.T) {
	for _, c := range rightRuns(t) {
		if ownRunRight(c.r) != c.right {
			t.Fatalf("%s: the rules asked one by one say something else", c.what)
		}
		if got := impl.RunRight(c.r); got != c.right {
			t.Errorf("%s: RunRight: got %v", c.what, got)
		}
		holdsRun(t, c.what, c.r)
		if c.right {
			holdsPromise8(t, c.r)
			continue
		}
		if can, done := impl.RunCan(c.r), impl.RunDone(c.r); len(can) > 0 || done {
			t.Errorf("%s: RunCan: got %q, RunDone: got %v", c.what, can, done)
		}
		for _, role := range []string{"a", "b", "nobody", "", "A"} {
			wantCode(t, c.what+": RunPick", impl.RunPick(c.r, role, 0), impl.ErrForm)
		}
		wantCode(t, c.what+": RunTape", impl.RunTape(c.r, []int64{0, 1}), impl.ErrForm)
		wantCode(t, c.what+": RunTape of nothing", impl.RunTape(c.r, nil), impl.ErrForm)
	}
}

func TestPromise8RunNew(t *testing.T) {
	for _, text := range []string{"end", "rec x.end", onceText, backText, roundText, fourText, toldText, deskText} {
		plan := readPlan(t, text)
		got := impl.RunNew(plan)
		wantRun(t, text, got, ownNew(plan))
		if got.Code != impl.OK || !impl.RunRight(got.Run) || len(got.Run.States) != len(impl.RolesOf(plan)) {
			t.Errorf("%q: RunNew: got %s", text, shown(got))
		}
	}
	wantRun(t, "of three", impl.RunNew(readPlan(t, toldText)), impl.RunOut{Run: runOf(readPlan(t, toldText), at(0, 0, 0))})
	for _, text := range []string{clashText, "rec x.a>b{l(none).x,m(none).c>a{n(none).x}}", "b>c{l(none).c>a{x(none).end},m(none).end}", "a>c{l(none).a>b{x(none).end},m(none).end}"} {
		wantCode(t, text, impl.RunNew(readPlan(t, text)), impl.ErrClash)
	}
	end := nodes(endNode())
	for _, plan := range [][]impl.Node{
		nil, {}, nodes(endNode(), endNode()), nodes(varNode("x")), nodes(recNode("x"), varNode("x")), wideRow(41), deepRow(11), recsRow(11),
		nodes(msgNode("a", "a", 1), caseNode("l", 0), endNode()), nodes(sendNode("b", 1), caseNode("l", 0), endNode()), nodes(caseNode("l", 0), endNode()),
		rowOf(oneSaid("a", "b", "l"), oneSaid("c", "d", "l"), oneSaid("a", "e", "l"), end),
		rowOf(readPlan(t, clashText), end), readPlan(t, clashText)[:4], slices.Repeat(end, impl.MaxList), slices.Repeat(end, impl.MaxList-1),
	} {
		wantCode(t, "a plan that is not right", impl.RunNew(plan), impl.ErrForm)
	}
	for _, count := range []int{impl.MaxList + 1, 2 * impl.MaxList, 50000} {
		wantCode(t, "too many Nodes", impl.RunNew(slices.Repeat(end, count)), impl.ErrSize)
		wantCode(t, "too many Nodes that begin as a plan", impl.RunNew(append(readPlan(t, onceText), make([]impl.Node, count)...)), impl.ErrSize)
	}
	for _, plan := range manyPlans(1500) {
		wantRun(t, "a grown plan", impl.RunNew(plan), ownNew(plan))
	}
}

func TestPromise8PickCodes(t *testing.T) {
	back, round, desk := readPlan(t, backText), readPlan(t, roundText), impl.DeskPlan()
	hi, no, go1 := saidMsg("abhi", 1), saidMsg("abno", 0), saidMsg("abgo", 1)
	ended := runOf(back, at(4, 4))
	late := impl.Run{Plan: back, States: at(4, 0), Steps: impl.MaxTime}
	long, most := strings.Repeat("a", impl.MaxBytes+1), strings.Repeat("a", impl.MaxBytes)
	bad := runOf(back, at(0))
	start := runOf(back, at(0, 0))
	full := runOf(round, at(0, 0), hi, hi, hi)
	lateFull := full
	lateFull.Steps = impl.MaxTime
	lateClash := runOf(round, at(0, 0), saidMsg("abzz", 1))
	lateClash.Steps = impl.MaxTime
	for _, c := range []struct {
		what   string
		r      impl.Run
		role   string
		choice int64
		code   int64
	}{
		{"a role that is too long", start, long, 0, impl.ErrSize},
		{"a role that is too long in what is not right", bad, long, 0, impl.ErrSize},
		{"a role that is too long, and no time", start, long, -1, impl.ErrSize},
		{"a role that is just not too long", start, most, 0, impl.ErrNone},
		{"a role that is just not too long in what is not right", bad, most, 0, impl.ErrForm},
		{"what is not right", bad, "a", 0, impl.ErrForm},
		{"what is not right, of nobody", bad, "c", 0, impl.ErrForm},
		{"what is not right, of no name", bad, "", 0, impl.ErrForm},
		{"what is not right, and no time", bad, "a", -1, impl.ErrForm},
		{"a choice below 0", start, "a", -1, impl.ErrForm},
		{"a choice of MaxTime and one more", start, "a", impl.MaxTime + 1, impl.ErrForm},
		{"a choice far below 0", start, "a", math.MinInt64, impl.ErrForm},
		{"a choice far above", start, "a", math.MaxInt64, impl.ErrForm},
		{"no time, of nobody", start, "c", -1, impl.ErrForm},
		{"no time, of no name", start, "", impl.MaxTime + 1, impl.ErrForm},
		{"no time, at its end", ended, "a", -1, impl.ErrForm},
		{"no time, of one that hears nothing", start, "b", -1, impl.ErrForm},
		{"no time, and Steps of MaxTime", late, "b", -1, impl.ErrForm},
		{"no time, and a full queue", full, "a", -1, impl.ErrForm},
		{"nobody", start, "c", 0, impl.ErrNone},
		{"a label", start, "go", 0, impl.ErrNone},
		{"a name that begins as a role", start, "aa", 0, impl.ErrNone},
		{"no name: nothing", start, "", 0, impl.ErrNone},
		{"no name: a capital", start, "A", 0, impl.ErrNone},
		{"no name: a blank", start, "a ", 0, impl.ErrNone},
		{"no name: a byte that is no rune", start, "\xff", 0, impl.ErrNone},
		{"no name: too many bytes", start, strings.Repeat("a", 21), 0, impl.ErrNone},
		{"nobody, and all at their end", ended, "c", 0, impl.ErrNone},
		{"nobody, and Steps of MaxTime", late, "c", 0, impl.ErrNone},
		{"nobody of no roles", runOf(readPlan(t, "end"), nil), "a", 0, impl.ErrNone},
		{"at its end", ended, "a", 0, impl.ErrState},
		{"the other one at its end", ended, "b", impl.MaxTime, impl.ErrState},
		{"at its end, something on its way to it", runOf(back, at(4, 4), go1), "b", 0, impl.ErrState},
		{"at its end, and Steps of MaxTime", late, "a", 0, impl.ErrState},
		{"Steps of MaxTime, of one that says", impl.Run{Plan: back, States: at(0, 0), Steps: impl.MaxTime}, "a", 0, impl.ErrFull},
		{"Steps of MaxTime, of one that hears", impl.Run{Plan: back, States: at(1, 0), Net: []impl.Msg{go1}, Steps: impl.MaxTime}, "b", 0, impl.ErrFull},
		{"Steps of MaxTime, of one that hears nothing", late, "b", 0, impl.ErrFull},
		{"Steps of MaxTime, of one that hears what it does not expect", lateClash, "b", 0, impl.ErrFull},
		{"Steps of MaxTime, and a full queue", lateFull, "a", 0, impl.ErrFull},
		{"a full queue", full, "a", 0, impl.ErrFull},
		{"a full queue of others, and another choice", runOf(round, at(0, 1), no, hi, no), "a", 1, impl.ErrFull},
		{"nothing on its way", start, "b", 0, impl.ErrShort},
		{"nothing on its way to it, but from it", runOf(back, at(0, 0), saidMsg("bago", 1)), "b", 0, impl.ErrShort},
		{"something from another one alone", runOf(desk, at(0, 0, 0), saidMsg("cbask", 1)), "b", 0, impl.ErrShort},
		{"something from who is heard to another one alone", runOf(desk, at(0, 0, 0), saidMsg("acask", 1)), "b", 0, impl.ErrShort},
		{"something from another one alone that is heard later", runOf(desk, at(1, 2, 0), saidMsg("abask", 1)), "b", 0, impl.ErrShort},
		{"a Label that is not expected", runOf(round, at(0, 0), saidMsg("abzz", 1)), "b", 0, impl.ErrClash},
		{"a Label of another state", runOf(back, at(0, 0), saidMsg("abyes", 2)), "b", 0, impl.ErrClash},
		{"a Label longer than what is expected", runOf(round, at(0, 0), saidMsg("abhii", 1)), "b", 0, impl.ErrClash},
		{"a Sort that is not expected", runOf(round, at(0, 0), saidMsg("abhi", 2)), "b", 0, impl.ErrClash},
		{"the Sort of another Label", runOf(round, at(0, 0), saidMsg("abno", 1)), "b", 0, impl.ErrClash},
		{"what is not expected ahead of what is", runOf(round, at(0, 0), saidMsg("abhi", 0), hi, no), "b", 0, impl.ErrClash},
		{"what is not expected, and another choice", runOf(round, at(0, 0), saidMsg("abzz", 1)), "b", 1, impl.ErrClash},
	} {
		wantCode(t, c.what, impl.RunPick(c.r, c.role, c.choice), c.code)
		wantRun(t, c.what+", by the rules one by one", ownPick(c.r, c.role, c.choice), impl.RunOut{Code: c.code})
	}
}

func TestPromise8PickSays(t *testing.T) {
	plan := readPlan(t, "a>b{z(none).end,l(int).end,m(text).end}")
	// The acts are in the order of the labels: l, m, z.
	labels := []impl.Event{event("a", impl.StSend, "b", "l", 1), event("a", impl.StSend, "b", "m", 2), event("a", impl.StSend, "b", "z", 0)}
	for _, choice := range []int64{0, 1, 2, 3, 4, 5, 6, 300, 301, 302, impl.MaxTime - 1, impl.MaxTime} {
		e := labels[choice%3]
		m := impl.Msg{From: "a", To: "b", Label: e.Act.Label, Sort: e.Act.Sort}
		to := []int64{2, 3, 1}[choice%3]
		got := impl.RunPick(runOf(plan, at(0, 0)), "a", choice)
		wantRun(t, "said", got, impl.RunOut{Run: impl.Run{Plan: plan, States: at(to, 0), Net: []impl.Msg{m}, Steps: 1}, Events: []impl.Event{e}})
		heard := impl.RunPick(got.Run, "b", choice+1-choice/impl.MaxTime)
		e.Role, e.Act.Kind, e.Act.Peer = "b", impl.StRecv, "a"
		wantRun(t, "heard", heard, impl.RunOut{Run: impl.Run{Plan: plan, States: at(to, to), Steps: 2}, Events: []impl.Event{e}})
		if !impl.RunDone(heard.Run) || impl.RunDone(got.Run) {
			t.Error("RunDone: not when both are at their end")
		}
	}
	// What is said comes behind all that is on its way.
	round := readPlan(t, roundText)
	hi, no := saidMsg("abhi", 1), saidMsg("abno", 0)
	r := runOf(round, at(0, 0), hi, saidMsg("bazz", 2), hi)
	wantRun(t, "behind all", impl.RunPick(r, "a", 1), impl.RunOut{Run: impl.Run{Plan: round, States: at(1, 0), Net: append(slices.Clone(r.Net), no), Steps: 1}, Events: []impl.Event{event("a", impl.StSend, "b", "no", 0)}})
	last := impl.Run{Plan: round, States: at(0, 0), Steps: impl.MaxTime - 1}
	wantRun(t, "the last step of all", impl.RunPick(last, "a", 0), impl.RunOut{Run: impl.Run{Plan: round, States: at(0, 0), Net: []impl.Msg{hi}, Steps: impl.MaxTime}, Events: []impl.Event{event("a", impl.StSend, "b", "hi", 1)}})
}

func TestPromise8PickHears(t *testing.T) {
	desk := impl.DeskPlan()
	ask, stop := saidMsg("abask", 1), saidMsg("abstop", 0)
	others := []impl.Msg{saidMsg("cbask", 1), saidMsg("bask", 1), saidMsg("acask", 1), saidMsg("abzz", 2)}
	for _, c := range []struct {
		what string
		net  []impl.Msg
		left []impl.Msg
		want impl.Event
		to   int64
	}{
		{"one alone", []impl.Msg{ask}, nil, event("b", impl.StRecv, "a", "ask", 1), 1},
		{"another one alone", []impl.Msg{stop}, nil, event("b", impl.StRecv, "a", "stop", 0), 4},
		{"the first of two", []impl.Msg{stop, ask}, []impl.Msg{ask}, event("b", impl.StRecv, "a", "stop", 0), 4},
		{"the first of two alike", []impl.Msg{ask, ask}, []impl.Msg{ask}, event("b", impl.StRecv, "a", "ask", 1), 1},
		{"the first of several, others between", []impl.Msg{others[0], ask, others[2], stop, others[1], ask}, []impl.Msg{others[0], others[2], stop, others[1], ask}, event("b", impl.StRecv, "a", "ask", 1), 1},
		{"one ahead of what is not expected", []impl.Msg{others[0], stop, others[3]}, []impl.Msg{others[0], others[3]}, event("b", impl.StRecv, "a", "stop", 0), 4},
		{"the last of many", append(slices.Clone(others[:3]), ask), others[:3], event("b", impl.StRecv, "a", "ask", 1), 1},
	} {
		for _, choice := range []int64{0, 1, impl.MaxTime} {
			got := impl.RunPick(runOf(desk, at(0, 0, 0), c.net...), "b", choice)
			wantRun(t, c.what, got, impl.RunOut{Run: impl.Run{Plan: desk, States: at(0, c.to, 0), Net: c.left, Steps: 1}, Events: []impl.Event{c.want}})
		}
	}
}

func TestPromise8Can(t *testing.T) {
	round, four, told := readPlan(t, roundText), readPlan(t, fourText), readPlan(t, toldText)
	hi, no := saidMsg("abhi", 1), saidMsg("abno", 0)
	for _, c := range []struct {
		what string
		r    impl.Run
		can  []string
		done bool
	}{
		{"a beginning", runOf(round, at(0, 0)), []string{"a"}, false},
		{"both", runOf(round, at(0, 0), hi), []string{"a", "b"}, false},
		{"a full queue", runOf(round, at(0, 0), hi, hi, hi), []string{"b"}, false},
		{"one at its end", runOf(round, at(1, 0), no), []string{"b"}, false},
		{"nobody, though not done", runOf(round, at(1, 0)), nil, false},
		{"nobody, for nothing is expected", runOf(round, at(1, 0), saidMsg("abzz", 1)), nil, false},
		{"done", runOf(round, at(1, 1)), nil, true},
		{"all at their end, something on its way", runOf(round, at(1, 1), hi), nil, false},
		{"all at their end, something on its way back", runOf(round, at(1, 1), saidMsg("bahi", 1)), nil, false},
		{"one not at its end, nothing on its way", runOf(round, at(0, 1)), []string{"a"}, false},
		{"two of four at the beginning", runOf(four, at(0, 0, 0, 0)), []string{"a", "c"}, false},
		{"one of four", runOf(four, at(1, 1, 2, 2)), []string{"b"}, false},
		{"the first and the last of four", runOf(four, at(1, 2, 2, 0), saidMsg("ban", 2), saidMsg("cdm", 1)), []string{"a", "d"}, false},
		{"all of four", runOf(four, at(0, 0, 0, 0), saidMsg("abl", 0), saidMsg("cdm", 1)), []string{"a", "b", "c", "d"}, false},
		{"four at their end", runOf(four, at(2, 2, 2, 2)), nil, true},
		{"three of four at their end", runOf(four, at(2, 2, 1, 2)), nil, false},
		{"three at their beginning", runOf(told, at(0, 0, 0)), []string{"a"}, false},
		{"nobody at all", runOf(readPlan(t, "end"), nil), nil, true},
		{"nobody at all, in an NdRec", runOf(readPlan(t, "rec x.rec y.end"), at()), nil, true},
		{"Steps of MaxTime", impl.Run{Plan: round, States: at(0, 0), Net: []impl.Msg{hi}, Steps: impl.MaxTime}, nil, false},
		{"Steps of MaxTime less 1", impl.Run{Plan: round, States: at(0, 0), Net: []impl.Msg{hi}, Steps: impl.MaxTime - 1}, []string{"a", "b"}, false},
		{"done at Steps of MaxTime", impl.Run{Plan: round, States: at(1, 1), Steps: impl.MaxTime}, nil, true},
		{"ended, and not right", runOf(round, at(1, 1, 1)), nil, false},
		{"ended, and Steps that are no time", impl.Run{Plan: round, States: at(1, 1), Steps: -1}, nil, false},
		{"not right", runOf(round, at(0, 2)), nil, false},
	} {
		if got := impl.RunCan(c.r); !slices.Equal(got, c.can) {
			t.Errorf("%s: RunCan: got %q, want %q", c.what, got, c.can)
		}
		if got := impl.RunDone(c.r); got != c.done {
			t.Errorf("%s: RunDone: got %v", c.what, got)
		}
		holdsRun(t, c.what, c.r)
	}
	// The roles rise as texts do, whoever comes first in the plan.
	plan := readPlan(t, "zz>b{l(none).b>a1{l(none).a1>a{l(none).end}}}")
	r := runOf(plan, at(0, 0, 0, 0), impl.Msg{From: "a1", To: "a", Label: "l"}, impl.Msg{From: "zz", To: "b", Label: "l"}, impl.Msg{From: "b", To: "a1", Label: "l"})
	if got := impl.RunCan(r); !slices.Equal(got, []string{"a", "a1", "b", "zz"}) {
		t.Errorf("RunCan of all: got %q", got)
	}
	for i, role := range []string{"a", "a1", "b", "zz"} {
		want := make([]int64, 4)
		want[i] = 1
		if got := impl.RunPick(r, role, 0).Run.States; !slices.Equal(got, want) {
			t.Errorf("RunPick of %q: the states are %v", role, got)
		}
	}
}

func TestPromise8Tapes(t *testing.T) {
	round, desk := readPlan(t, roundText), impl.DeskPlan()
	hi, no := saidMsg("abhi", 1), saidMsg("abno", 0)
	sayHi, sayNo := event("a", impl.StSend, "b", "hi", 1), event("a", impl.StSend, "b", "no", 0)
	hearHi, hearNo := event("b", impl.StRecv, "a", "hi", 1), event("b", impl.StRecv, "a", "no", 0)
	start := runOf(round, at(0, 0))
	tape := func(what string, r impl.Run, tape []int64, want impl.Run, events ...impl.Event) {
		t.Helper()
		wantRun(t, what, impl.RunTape(r, tape), impl.RunOut{Run: want, Events: events})
	}
	tape("no number", start, nil, start)
	tape("an empty tape", start, []int64{}, start)
	tape("one number", start, []int64{0}, impl.Run{Plan: round, States: at(0, 0), Net: []impl.Msg{hi}, Steps: 1}, sayHi)
	tape("the other choice", start, []int64{2}, impl.Run{Plan: round, States: at(1, 0), Net: []impl.Msg{no}, Steps: 1}, sayNo)
	tape("a choice that goes round", start, []int64{4}, impl.Run{Plan: round, States: at(0, 0), Net: []impl.Msg{hi}, Steps: 1}, sayHi)
	tape("MaxTime", start, []int64{impl.MaxTime}, impl.Run{Plan: round, States: at(0, 0), Net: []impl.Msg{hi}, Steps: 1}, sayHi)
	tape("MaxTime less 2", start, []int64{impl.MaxTime - 2}, impl.Run{Plan: round, States: at(1, 0), Net: []impl.Msg{no}, Steps: 1}, sayNo)
	tape("a code changes nothing", start, []int64{1, 1, 3}, start)
	tape("codes between", start, []int64{1, 0, 1, 1, 2, 0, 2, 3, 1, 5}, impl.Run{Plan: round, States: at(1, 1), Steps: 4}, sayHi, hearHi, sayNo, hearNo)
	tape("a queue that gets full", start, []int64{0, 0, 0, 0, 2, 1, 2, 0}, impl.Run{Plan: round, States: at(1, 0), Net: []impl.Msg{hi, hi, no}, Steps: 5}, sayHi, sayHi, sayHi, hearHi, sayNo)
	tape("what is not expected", runOf(round, at(0, 0), saidMsg("abzz", 0)), []int64{1, 3, 2, 1}, impl.Run{Plan: round, States: at(1, 0), Net: []impl.Msg{saidMsg("abzz", 0), no}, Steps: 1}, sayNo)
	late := impl.Run{Plan: round, States: at(0, 0), Net: []impl.Msg{hi}, Steps: impl.MaxTime - 1}
	tape("the last step of all", late, []int64{1, 0, 2, 1}, impl.Run{Plan: round, States: at(0, 0), Steps: impl.MaxTime}, hearHi)
	late.Steps = impl.MaxTime
	tape("no step more", late, []int64{1, 0, 2, 1}, late)
	ended := impl.Run{Plan: round, States: at(1, 1), Steps: 4}
	tape("done", ended, []int64{0, 1, 2, 3, 4, 5}, ended)
	nobody := impl.Run{Plan: readPlan(t, "rec x.end"), Steps: 5}
	for _, numbers := range [][]int64{nil, {0}, {0, 1, impl.MaxTime}, make([]int64, 60)} {
		tape("without roles", nobody, numbers, nobody)
	}
	wantCode(t, "without roles, no time", impl.RunTape(nobody, []int64{-1}), impl.ErrForm)
	wantCode(t, "without roles, 61 numbers", impl.RunTape(nobody, make([]int64, 61)), impl.ErrForm)

	full := slices.Repeat([]int64{0, 1}, 30)
	got := impl.RunTape(start, full)
	if got.Code != impl.OK || len(got.Events) != 60 || got.Run.Steps != 60 || !slices.Equal(got.Events, slices.Repeat([]impl.Event{sayHi, hearHi}, 30)) {
		t.Errorf("60 numbers: got %s", shown(got))
	}
	for _, count := range []int{61, 62, 100, impl.MaxList - 1, impl.MaxList} {
		wantCode(t, "too many numbers", impl.RunTape(start, make([]int64, count)), impl.ErrForm)
	}
	for _, count := range []int{impl.MaxList + 1, 5000} {
		wantCode(t, "far too many numbers", impl.RunTape(start, make([]int64, count)), impl.ErrSize)
		wantCode(t, "far too many numbers that are no times", impl.RunTape(start, slices.Repeat([]int64{-1}, count)), impl.ErrSize)
		wantCode(t, "far too many numbers of what is not right", impl.RunTape(impl.Run{}, make([]int64, count)), impl.ErrSize)
	}
	for _, number := range []int64{-1, impl.MaxTime + 1, math.MinInt64, math.MaxInt64} {
		for i := range full {
			turned := slices.Clone(full)
			turned[i] = number
			wantCode(t, "a number that is no time", impl.RunTape(start, turned), impl.ErrForm)
		}
		wantCode(t, "a number that is no time, alone", impl.RunTape(start, []int64{number}), impl.ErrForm)
		wantCode(t, "a number that is no time, though it is done", impl.RunTape(ended, []int64{number}), impl.ErrForm)
		wantCode(t, "a number that is no time, of what is not right", impl.RunTape(impl.Run{}, []int64{number}), impl.ErrForm)
	}
	e := impl.RunTape(impl.RunNew(desk).Run, []int64{3, 1, 2, 1, 2})
	wantRun(t, "the desk", e, impl.RunOut{Run: impl.Run{Plan: desk, States: at(2, 5, 2), Steps: 4}, Events: []impl.Event{
		event("a", impl.StSend, "b", "stop", 0), event("b", impl.StRecv, "a", "stop", 0), event("b", impl.StSend, "c", "stop", 0), event("c", impl.StRecv, "b", "stop", 0),
	}})
}

// anyRun is a right Run of a sound plan, wherever everybody is, and whatever is on its way.
func anyRun(r *rand.Rand, plan []impl.Node) impl.Run {
	roles, machines, _ := ownMachines(plan)
	run := impl.Run{Plan: plan, Steps: []int64{0, 1, 77, impl.MaxTime - 1, impl.MaxTime}[r.Intn(5)]}
	for _, m := range machines {
		run.States = append(run.States, int64(r.Intn(len(m.States))))
	}
	for range r.Intn(8) {
		if len(roles) < 2 {
			break
		}
		// Most of what is on its way is expected by somebody, somewhere.
		to := r.Intn(len(roles))
		m := machines[to]
		if len(m.Edges) == 0 {
			continue
		}
		e := m.Edges[r.Intn(len(m.Edges))]
		one := impl.Msg{From: m.States[e.From].Peer, To: roles[to], Label: e.Label, Sort: e.Sort}
		if r.Intn(6) == 0 {
			one.Sort = int64(r.Intn(3))
		}
		if out := ownPut(run.Net, one); out.Code == impl.OK {
			run.Net = out.Net
		}
	}
	return run
}

// soundPlans are many, of two to four roles, with and without loops and cases.
func soundPlans(count int) [][]impl.Node {
	r := rand.New(rand.NewSource(89))
	var plans [][]impl.Node
	seen := map[string]int{}
	for len(plans) < count {
		var plan []impl.Node
		switch r.Intn(3) {
		case 0:
			plan = growPlan(r, nil, nil)
		case 1:
			plan = growTold(r, nil, 1+r.Intn(4), nil)
		case 2:
			plan = growTold(r, nodes(recNode("x")), 1+r.Intn(4), []string{"x"})
		}
		if len(plan) > impl.MaxNodes || len(ownRoles(plan)) == 0 || seen[drawn(plan)] > 0 {
			continue
		}
		seen[drawn(plan)]++
		if _, _, sound := ownMachines(plan); sound {
			plans = append(plans, plan)
		}
	}
	return plans
}

// turnedRun takes one thing of a Run away from what is right, or not.
func turnedRun(r *rand.Rand, run impl.Run) impl.Run {
	turned := copyOfRun(run)
	switch i := r.Intn(max(1, len(turned.States))); r.Intn(9) {
	case 0:
		turned.States = append(turned.States, 0)
	case 1:
		turned.States = turned.States[1:]
	case 2:
		turned.States[i] = int64(r.Intn(12))
	case 3:
		turned.States[i] = -1 - int64(r.Intn(3))
	case 4:
		turned.Steps = []int64{-1, impl.MaxTime + 1}[r.Intn(2)]
	case 5:
		turned.Net = append(turned.Net, impl.Msg{From: "a", To: []string{"b", "c", "d", "e"}[r.Intn(4)], Label: "l", Sort: int64(r.Intn(4))})
	case 6:
		turned.Plan = turned.Plan[:len(turned.Plan)-1]
	case 7:
		at := r.Intn(len(turned.Plan))
		turned.Plan[at].Name = []string{"", "a", "b", "x", "q"}[r.Intn(5)]
	case 8:
		slices.Reverse(turned.States)
	}
	return turned
}

// Of all codes there must be many: what is asked of few is not asked.
func TestPromise8ManyRuns(t *testing.T) {
	r := rand.New(rand.NewSource(8))
	codes := map[int64]int{}
	right, wrong := 0, 0
	for _, plan := range soundPlans(150) {
		run := anyRun(r, plan)
		if !ownRunRight(run) {
			t.Fatalf("not right: %v", run)
		}
		holdsRun(t, "any run", run)
		turned := turnedRun(r, run)
		holdsRun(t, "a turned run", turned)
		if ownRunRight(turned) {
			right++
		} else {
			wrong++
		}
		for range 10 {
			run := anyRun(r, plan)
			holdsPromise8(t, run)
			for _, role := range ownRoles(plan) {
				out := impl.RunPick(run, role, int64(r.Intn(9)))
				codes[out.Code]++
			}
		}
	}
	for _, code := range []int64{impl.OK, impl.ErrState, impl.ErrFull, impl.ErrShort, impl.ErrClash} {
		if codes[code] < 50 {
			t.Errorf("only %d times the code %d", codes[code], code)
		}
	}
	if right < 10 || wrong < 50 {
		t.Errorf("%d turned runs are right, %d are not", right, wrong)
	}
}

// goneOn holds promise 9 at one place of a talk: nobody hears what they do not expect, and it is done, or somebody can go on.
func goneOn(t *testing.T, r impl.Run) {
	t.Helper()
	can, done := impl.RunCan(r), impl.RunDone(r)
	if done == (len(can) > 0) {
		t.Errorf("RunDone: got %v, RunCan: got %q: %s", done, can, shown(impl.RunOut{Run: r}))
	}
	for _, role := range impl.RolesOf(r.Plan) {
		code := impl.RunPick(r, role, 0).Code
		if (code == impl.OK) != slices.Contains(can, role) {
			t.Errorf("RunPick of %q tells %d, RunCan %q", role, code, can)
		}
		if !slices.Contains([]int64{impl.OK, impl.ErrState, impl.ErrFull, impl.ErrShort}, code) {
			t.Errorf("%q tells %d: %s", role, code, shown(impl.RunOut{Run: r}))
		}
	}
}

// everyTalk goes on from the beginning by all roles and choices, to at most that many places; it tells how many there are, and whether the end is one.
func everyTalk(t *testing.T, plan []impl.Node, most int) (places int, ended bool) {
	t.Helper()
	runs := []impl.Run{impl.RunNew(plan).Run}
	seen := map[string]int{fmt.Sprint(runs[0].States, runs[0].Net): 1}
	for ; places < len(runs) && places < most; places++ {
		r := runs[places]
		goneOn(t, r)
		ended = ended || impl.RunDone(r)
		for _, role := range impl.RolesOf(plan) {
			for choice := range int64(4) {
				out := impl.RunPick(r, role, choice)
				if out.Code != impl.OK {
					break
				}
				key := fmt.Sprint(out.Run.States, out.Run.Net)
				if seen[key]++; seen[key] == 1 {
					runs = append(runs, out.Run)
				}
			}
		}
	}
	return places, ended
}

func TestPromise9EveryTalk(t *testing.T) {
	ends := 0
	for _, text := range []string{
		onceText, backText, roundText, fourText, toldText, deskText,
		"rec x.a>b{l(none).b>a{m(none).x}}",
		"rec x.a>b{l(none).a>b{m(int).x,n(none).end}}",
		"rec x.a>b{l(none).c>b{m(none).x}}",
		"rec x.a>b{l(none).b>c{m(none).c>a{n(none).x}}}",
		"a>b{l(none).rec x.c>d{m(none).x}}",
		"rec x.a>b{k(none).rec y.b>a{l(none).y,m(none).x,n(none).end}}",
		"a>b{l(none).b>c{x(int).b>c{p(none).end}},m(none).b>c{x(int).b>c{q(none).end}}}",
		"rec x.a>c{k(none).rec y.b>a{m(none).x}}",
		"a>b{l(none).c>a{x(int).end},m(none).c>a{x(int).end}}",
		"rec x.a>b{l(none).a>c{l(none).a>d{l(none).x}},m(none).a>c{m(none).a>d{m(none).d>a{n(none).end}}}}",
	} {
		plan := readPlan(t, text)
		places, ended := everyTalk(t, plan, 400)
		if places < 3 {
			t.Errorf("%q: only %d places", text, places)
		}
		if ended {
			ends++
		}
		if ended && !strings.Contains(text, "end") {
			t.Errorf("%q is done", text)
		}
	}
	if ends < 8 {
		t.Errorf("only %d come to their end", ends)
	}
	places, ends := 0, 0
	for _, plan := range soundPlans(250) {
		count, ended := everyTalk(t, plan, 40)
		places += count
		if ended {
			ends++
		}
	}
	if places < 2000 || ends < 60 {
		t.Errorf("only %d places, %d come to their end", places, ends)
	}
}

// Long tapes, one behind the other: each step of them as RunPick does it, at each the promises 8 and 9.
func TestPromise9LongTapes(t *testing.T) {
	r := rand.New(rand.NewSource(9))
	steps, dones, loops, cases := 0, 0, 0, 0
	for _, plan := range soundPlans(200) {
		if slices.ContainsFunc(plan, func(n impl.Node) bool { return n.Op == impl.NdVar }) {
			loops++
		}
		if slices.ContainsFunc(plan, func(n impl.Node) bool { return n.Many > 1 }) {
			cases++
		}
		run := impl.RunNew(plan).Run
		for range 3 {
			tape := make([]int64, maxPicks)
			for i := range tape {
				tape[i] = int64(r.Intn(40))
			}
			whole := impl.RunTape(run, tape)
			wantRun(t, "by the rules one by one", whole, ownTape(run, tape))
			run = stepByStep(t, run, tape, whole.Events)
			if !sameRun(run, whole.Run) {
				t.Errorf("step by step: got %v, by the tape %v", run, whole.Run)
			}
			steps += len(whole.Events)
		}
		if impl.RunDone(run) {
			dones++
		}
	}
	if steps < 2000 || dones < 40 || loops < 40 || cases < 40 {
		t.Errorf("only %d steps, %d are done, %d plans have loops, %d cases", steps, dones, loops, cases)
	}
}

func stepByStep(t *testing.T, run impl.Run, tape []int64, events []impl.Event) impl.Run {
	t.Helper()
	roles := impl.RolesOf(run.Plan)
	for _, number := range tape {
		who := roles[number%int64(len(roles))]
		out := impl.RunPick(run, who, number/int64(len(roles)))
		if out.Code != impl.OK {
			if out.Code == impl.ErrClash {
				t.Errorf("%q hears what it does not expect: %s", who, shown(impl.RunOut{Run: run}))
			}
			continue
		}
		if len(events) == 0 || !slices.Equal(out.Events, events[:1]) {
			t.Fatalf("the events are not those of the tape: %v, then %v", out.Events, events)
		}
		run, events = out.Run, events[1:]
		if !impl.RunRight(run) {
			t.Errorf("not right any more: %s", shown(out))
		}
		goneOn(t, run)
	}
	if len(events) > 0 {
		t.Errorf("the tape tells more: %v", events)
	}
	return run
}

// Who goes on whenever somebody can comes to the end of a plan without loops, in twice as many steps as there are messages on the way.
func TestPromise9ComesToItsEnd(t *testing.T) {
	count := 0
	for _, plan := range soundPlans(200) {
		if slices.ContainsFunc(plan, func(n impl.Node) bool { return n.Op == impl.NdVar }) {
			continue
		}
		count++
		for last := range 2 {
			run := impl.RunNew(plan).Run
			for can := impl.RunCan(run); len(can) > 0; can = impl.RunCan(run) {
				run = impl.RunPick(run, can[last*(len(can)-1)], int64(last)).Run
			}
			if !impl.RunDone(run) || run.Steps%2 != 0 || run.Steps == 0 || run.Steps > 2*impl.NodesOf(plan) {
				t.Errorf("%q does not come to its end: %s", drawn(plan), shown(impl.RunOut{Run: run}))
			}
		}
	}
	if count < 30 {
		t.Errorf("only %d plans without loops", count)
	}
}

// What goes round is not at its end after however many tapes.
func TestPromise9RoundAndRound(t *testing.T) {
	run := impl.RunNew(readPlan(t, "rec x.a>b{l(none).b>c{m(int).c>a{n(text).x}}}")).Run
	tape := slices.Repeat([]int64{0, 1, 1, 2, 2, 0}, 10)
	for i := range int64(100) {
		out := impl.RunTape(run, tape)
		if out.Code != impl.OK || len(out.Events) != 60 || out.Run.Steps != 60*(i+1) {
			t.Fatalf("the round %d: got %s", i, shown(out))
		}
		run = out.Run
		goneOn(t, run)
	}
	for range 5 {
		run.Steps = impl.MaxTime - 30
		out := impl.RunTape(run, tape)
		if out.Code != impl.OK || len(out.Events) != 30 || out.Run.Steps != impl.MaxTime || !impl.RunRight(out.Run) || len(impl.RunCan(out.Run)) > 0 {
			t.Fatalf("up to MaxTime: got %s", shown(out))
		}
		run = out.Run
	}
}

// textsOfRun tells all texts of a Run.
func textsOfRun(r impl.Run) (plan []string, net []string) {
	for _, n := range r.Plan {
		plan = append(plan, n.Name, n.Peer)
	}
	for _, m := range r.Net {
		net = append(net, m.From, m.To, m.Label)
	}
	return plan, net
}

func sharesAny(a []string, b []string) bool {
	return slices.ContainsFunc(a, func(x string) bool {
		return slices.ContainsFunc(b, func(y string) bool { return sameMemory(x, y) })
	})
}

func TestRunNewMemory(t *testing.T) {
	plan := readPlan(t, "rec round.first>second{word(int).second>third{word(int).round},last(none).second>third{last(none).end}}")
	run := impl.RunNew(plan).Run
	run.Net = []impl.Msg{{From: "first", To: "second", Label: "word", Sort: 1}, {From: "second", To: "third", Label: "last"}, {From: "third", To: "first", Label: "other"}}
	textsOf(run.Net)
	role, tape := strings.Clone("second"), []int64{0, 1, 2, 1, 3}
	before, toldTape := copyOfRun(run), slices.Clone(tape)
	planTexts, netTexts := textsOfRun(run)
	handed := append(slices.Concat(planTexts, netTexts), role)
	for _, n := range plan {
		handed = append(handed, n.Name, n.Peer)
	}
	ask := func() []impl.RunOut {
		return []impl.RunOut{impl.RunNew(plan), impl.RunPick(run, role, 0), impl.RunPick(run, "first", 1), impl.RunPick(run, "third", 0), impl.RunTape(run, tape), impl.RunTape(run, nil)}
	}
	first := ask()
	for i, out := range ask() {
		wantRun(t, "asked once more", out, first[i])
		if out.Code != impl.OK {
			t.Fatalf("the answer %d has the code %d", i, out.Code)
		}
		ownPlanTexts, ownNetTexts := textsOfRun(out.Run)
		var events []string
		for _, e := range out.Events {
			events = append(events, e.Role, e.Act.Peer, e.Act.Label)
		}
		for _, texts := range [][]string{ownPlanTexts, ownNetTexts, events} {
			if sharesAny(texts, handed) {
				t.Errorf("the answer %d shares memory with what is handed in", i)
			}
		}
		if sharesAny(ownPlanTexts, ownNetTexts) || sharesAny(ownPlanTexts, events) || sharesAny(ownNetTexts, events) {
			t.Errorf("two lists of the answer %d share memory", i)
		}
		clear(out.Run.Plan[:cap(out.Run.Plan)])
		clear(out.Run.States[:cap(out.Run.States)])
		clear(out.Run.Net[:cap(out.Run.Net)])
		clear(out.Events[:cap(out.Events)])
		if !sameRun(run, before) || !slices.Equal(plan, before.Plan) || !slices.Equal(tape, toldTape) {
			t.Fatalf("the answer %d shares a list with what is handed in", i)
		}
	}
	for i, out := range ask() {
		wantRun(t, "asked again", out, first[i])
	}
	can := impl.RunCan(run)
	if !slices.Equal(can, []string{"first", "second", "third"}) || sharesAny(can, handed) {
		t.Errorf("RunCan: got %q, or it shares memory with the Run", can)
	}
	can[0] = "changed"
	if got := impl.RunCan(run); got[0] != "first" || !sameRun(run, before) {
		t.Errorf("two answers of RunCan share their memory: %q", got)
	}
}
