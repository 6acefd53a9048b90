package tests

import (
	"encoding/binary"
	"math"
	"math/rand"
	"reflect"
	"slices"
	"sort"
	"strconv"
	"strings"
	"testing"

	"loop.example/g00574/impl"
)

func sendState(peer string) impl.State {
	return impl.State{Kind: impl.StSend, Peer: peer}
}

func recvState(peer string) impl.State {
	return impl.State{Kind: impl.StRecv, Peer: peer}
}

func endState() impl.State {
	return impl.State{Kind: impl.StEnd}
}

func edgeTo(from int64, label string, sort int64, to int64) impl.Edge {
	return impl.Edge{From: from, Label: label, Sort: sort, To: to}
}

func machineOf(start int64, states []impl.State, edges ...impl.Edge) impl.Machine {
	return impl.Machine{States: states, Edges: edges, Start: start}
}

func states(l ...impl.State) []impl.State {
	return l
}

func copyOf(m impl.Machine) impl.Machine {
	return impl.Machine{States: slices.Clone(m.States), Edges: slices.Clone(m.Edges), Start: m.Start}
}

func sameMachine(a impl.Machine, b impl.Machine) bool {
	return slices.Equal(a.States, b.States) && slices.Equal(a.Edges, b.Edges) && a.Start == b.Start
}

func isZeroMachine(m impl.Machine) bool {
	return len(m.States) == 0 && len(m.Edges) == 0 && m.Start == 0
}

// ownMachineRight asks each rule of chapter 5 by itself.
func ownMachineRight(m impl.Machine) bool {
	count := int64(len(m.States))
	if count < 1 || count > 40 || len(m.Edges) > 80 || m.Start < 0 || m.Start >= count {
		return false
	}
	for _, s := range m.States {
		end := s.Kind == impl.StEnd && s.Peer == ""
		talks := (s.Kind == impl.StSend || s.Kind == impl.StRecv) && impl.NameRight(s.Peer)
		if !end && !talks {
			return false
		}
	}
	for i, e := range m.Edges {
		if e.From < 0 || e.From >= count || e.To < 0 || e.To >= count || m.States[e.From].Kind == impl.StEnd {
			return false
		}
		if !impl.NameRight(e.Label) || e.Sort < 0 || e.Sort > 2 {
			return false
		}
		for _, later := range m.Edges[i+1:] {
			if later.From < e.From || later.From == e.From && later.Label <= e.Label {
				return false
			}
		}
	}
	return true
}

// ownMachine goes from each case to its State by the places in the row.
func ownMachine(part []impl.Node) impl.Machine {
	parents, _ := parentsOf(part)
	numbers := map[int]int64{}
	var m impl.Machine
	for i, n := range part {
		kind, isState := map[int64]int64{impl.NdEnd: impl.StEnd, impl.NdSend: impl.StSend, impl.NdRecv: impl.StRecv}[n.Op]
		if isState {
			numbers[i] = int64(len(m.States))
			m.States = append(m.States, impl.State{Kind: kind, Peer: n.Peer})
		}
	}
	for i, n := range part {
		if n.Op == impl.NdCase {
			m.Edges = append(m.Edges, edgeTo(numbers[parents[i]], n.Name, n.Sort, numbers[ownFirst(part, parents, i+1)]))
		}
	}
	sort.Slice(m.Edges, func(i, j int) bool {
		a, b := m.Edges[i], m.Edges[j]
		return a.From < b.From || a.From == b.From && a.Label < b.Label
	})
	return m
}

func ownFirst(part []impl.Node, parents []int, at int) int {
	for {
		switch part[at].Op {
		case impl.NdVar:
			name := part[at].Name
			for part[at] != recNode(name) {
				at = parents[at]
			}
			at++
		case impl.NdRec:
			at++
		default:
			return at
		}
	}
}

func ownActs(m impl.Machine, state int64) []impl.Act {
	var acts []impl.Act
	for _, e := range m.Edges {
		if e.From == state {
			acts = append(acts, impl.Act{Kind: m.States[state].Kind, Peer: m.States[state].Peer, Label: e.Label, Sort: e.Sort})
		}
	}
	return acts
}

func ownStep(m impl.Machine, state int64, a impl.Act) int64 {
	for _, e := range m.Edges {
		if e.From == state && e.Label == a.Label && e.Sort == a.Sort && m.States[state] == (impl.State{Kind: a.Kind, Peer: a.Peer}) {
			return e.To
		}
	}
	return -1
}

// ownEnds lets each Edge tell what is known at its To back to its From, till nothing is new.
func ownEnds(m impl.Machine) []int64 {
	ends := make([]int64, len(m.States))
	for i, s := range m.States {
		if s.Kind != impl.StEnd {
			ends[i] = -1
		}
	}
	for range m.States {
		for _, e := range m.Edges {
			if near := ends[e.To]; near >= 0 && (ends[e.From] < 0 || ends[e.From] > near+1) {
				ends[e.From] = near + 1
			}
		}
	}
	return ends
}

// putBy writes the bytes of a Machine with its numbers, those of lengths among them, put as it is told.
func putBy(m impl.Machine, put func(n int64) string) string {
	text := put(int64(len(m.States)))
	for _, s := range m.States {
		text += put(s.Kind) + put(int64(len(s.Peer))) + s.Peer
	}
	text += put(int64(len(m.Edges)))
	for _, e := range m.Edges {
		text += put(e.From) + put(int64(len(e.Label))) + e.Label + put(e.Sort) + put(e.To)
	}
	return text + put(m.Start)
}

func varint(n int64) string {
	return string(binary.AppendVarint(nil, n))
}

// ownRead takes a text apart by the library's numbers; what is not written as it would be is no Machine.
func ownRead(text string) (impl.Machine, bool) {
	var m impl.Machine
	left, ok := []byte(text), true
	num := func() int64 {
		n, size := binary.Varint(left)
		if !ok || size <= 0 {
			ok = false
			return 0
		}
		left = left[size:]
		return n
	}
	word := func() string {
		size := num()
		if !ok || size < 0 || size > int64(len(left)) {
			ok = false
			return ""
		}
		t := string(left[:size])
		left = left[size:]
		return t
	}
	for many := num(); ok && int64(len(m.States)) < many; {
		kind := num()
		m.States = append(m.States, impl.State{Kind: kind, Peer: word()})
	}
	for many := num(); ok && int64(len(m.Edges)) < many; {
		e := impl.Edge{From: num()}
		e.Label = word()
		e.Sort = num()
		e.To = num()
		m.Edges = append(m.Edges, e)
	}
	m.Start = num()
	return m, ok && ownMachineRight(m) && putBy(m, varint) == text
}

// actsNearby: the Act, and with each of its fields turned.
func actsNearby(a impl.Act) []impl.Act {
	acts := []impl.Act{a}
	for _, kind := range []int64{0, 1, 2, 3, -1} {
		acts = append(acts, impl.Act{Kind: kind, Peer: a.Peer, Label: a.Label, Sort: a.Sort})
	}
	for _, sort := range []int64{0, 1, 2, 3, -1} {
		acts = append(acts, impl.Act{Kind: a.Kind, Peer: a.Peer, Label: a.Label, Sort: sort})
	}
	for _, word := range []string{"", "a", "b", "l", "m", a.Peer + "x", a.Label + "x", strings.Repeat("n", impl.MaxBytes+1)} {
		acts = append(acts, impl.Act{Kind: a.Kind, Peer: word, Label: a.Label, Sort: a.Sort}, impl.Act{Kind: a.Kind, Peer: a.Peer, Label: word, Sort: a.Sort})
	}
	return acts
}

// holdsMachine asks all calls that take a Machine of which it is known whether it is right.
func holdsMachine(t *testing.T, what string, m impl.Machine, right bool) {
	t.Helper()
	if ownMachineRight(m) != right {
		t.Fatalf("%s: the rules asked one by one say something else of %v", what, m)
	}
	before := copyOf(m)
	if got := impl.MachineRight(m); got != right {
		t.Errorf("%s: MachineRight(%v): got %v", what, m, got)
		return
	}
	if right {
		holdsRight(t, what, m)
	} else {
		holdsWrong(t, what, m)
	}
	if !sameMachine(m, before) {
		t.Errorf("%s: the Machine has been changed: %v", what, m)
	}
}

func holdsRight(t *testing.T, what string, m impl.Machine) {
	t.Helper()
	text := putBy(m, varint)
	if got := impl.MachineBytes(m); got != text {
		t.Errorf("%s: MachineBytes(%v): got %q, want %q", what, m, got, text)
	}
	if got := impl.MachineRead(text); got.Code != impl.OK || !sameMachine(got.Machine, m) {
		t.Errorf("%s: MachineRead(%q): got %v", what, text, got)
	}
	if got := impl.Follow(m, nil); got != m.Start {
		t.Errorf("%s: Follow of no acts: got %d", what, got)
	}
	ends := ownEnds(m)
	for state := range int64(len(m.States)) {
		acts := ownActs(m, state)
		if got := impl.ActsOf(m, state); !slices.Equal(got, acts) {
			t.Errorf("%s: ActsOf(%v, %d): got %v, want %v", what, m, state, got, acts)
		}
		if got := impl.EndOf(m, state); got != ends[state] {
			t.Errorf("%s: EndOf(%v, %d): got %d, want %d", what, m, state, got, ends[state])
		}
		for _, a := range append(acts, impl.Act{}, impl.Act{Kind: m.States[state].Kind, Peer: m.States[state].Peer}) {
			if got, want := impl.StepOf(m, state, a), ownStep(m, state, a); got != want {
				t.Errorf("%s: StepOf(%v, %d, %v): got %d, want %d", what, m, state, a, got, want)
			}
		}
	}
	refusesStates(t, what, m)
}

// refusesStates: what is no state of a Machine does nothing, whatever is done in the others.
func refusesStates(t *testing.T, what string, m impl.Machine) {
	t.Helper()
	for _, state := range []int64{-1, int64(len(m.States)), -2, math.MinInt64, math.MaxInt64} {
		if got := impl.ActsOf(m, state); len(got) != 0 {
			t.Errorf("%s: ActsOf of the state %d: got %v", what, state, got)
		}
		if got := impl.EndOf(m, state); got != -1 {
			t.Errorf("%s: EndOf of the state %d: got %d", what, state, got)
		}
		for _, e := range m.Edges {
			a := impl.Act{Kind: m.States[e.From].Kind, Peer: m.States[e.From].Peer, Label: e.Label, Sort: e.Sort}
			if got := impl.StepOf(m, state, a); got != -1 {
				t.Errorf("%s: StepOf of the state %d by %v: got %d", what, state, a, got)
			}
		}
	}
}

func holdsWrong(t *testing.T, what string, m impl.Machine) {
	t.Helper()
	if got := impl.MachineBytes(m); got != "" {
		t.Errorf("%s: MachineBytes: got %q", what, got)
	}
	text, code := putBy(m, varint), int64(impl.ErrSyntax)
	if len(text) > impl.MaxBytes {
		code = impl.ErrSize
	}
	refusesBytes(t, text, code)
	acts := []impl.Act{{}, {Kind: impl.StSend, Peer: "b", Label: "l"}}
	for _, s := range m.States[:min(len(m.States), 3)] {
		for _, e := range m.Edges[:min(len(m.Edges), 3)] {
			acts = append(acts, impl.Act{Kind: s.Kind, Peer: s.Peer, Label: e.Label, Sort: e.Sort})
		}
	}
	for _, state := range []int64{-1, 0, 1, m.Start, int64(len(m.States)) - 1, int64(len(m.States))} {
		if got := impl.ActsOf(m, state); len(got) != 0 {
			t.Errorf("%s: ActsOf of the state %d: got %v", what, state, got)
		}
		if got := impl.EndOf(m, state); got != -1 {
			t.Errorf("%s: EndOf of the state %d: got %d", what, state, got)
		}
		for _, a := range acts {
			if got := impl.StepOf(m, state, a); got != -1 {
				t.Errorf("%s: StepOf of the state %d by %v: got %d", what, state, a, got)
			}
		}
	}
	for _, a := range acts {
		for _, list := range [][]impl.Act{nil, {a}, slices.Repeat([]impl.Act{a}, 60), slices.Repeat([]impl.Act{a}, 500)} {
			if got := impl.Follow(m, list); got != -1 {
				t.Errorf("%s: Follow of %d acts: got %d", what, len(list), got)
			}
			if got := impl.Watch(m, list); got != -1 {
				t.Errorf("%s: Watch of %d acts: got %d", what, len(list), got)
			}
		}
	}
}

func refusesBytes(t *testing.T, text string, code int64) {
	t.Helper()
	got := impl.MachineRead(text)
	if got.Code != code || !isZeroMachine(got.Machine) {
		t.Errorf("MachineRead(%.80q): got %v, want the code %d", text, got, code)
	}
}

func refusesMachine(t *testing.T, what string, part []impl.Node, code int64) {
	t.Helper()
	got := impl.MachineOf(part)
	if got.Code != code || !isZeroMachine(got.Machine) {
		t.Errorf("%s: MachineOf: got %v, want the code %d", what, got, code)
	}
}

// machineRead is the Machine of a part's text.
func machineRead(t *testing.T, text string) impl.Machine {
	t.Helper()
	part := impl.PartRead(text)
	got := impl.MachineOf(part.Part)
	if part.Code != impl.OK || got.Code != impl.OK {
		t.Fatalf("%q: PartRead tells %d, MachineOf %d", text, part.Code, got.Code)
	}
	return got.Machine
}

func TestPromise5KnownMachines(t *testing.T) {
	b, c := sendState("b"), recvState("c")
	for _, k := range []struct {
		part string
		want impl.Machine
	}{
		{"end", machineOf(0, states(endState()))},
		{"rec x.end", machineOf(0, states(endState()))},
		{"rec x.rec y.rec z.end", machineOf(0, states(endState()))},
		{"b!{l(int).end}", machineOf(0, states(b, endState()), edgeTo(0, "l", 1, 1))},
		{"c?{l(text).end}", machineOf(0, states(c, endState()), edgeTo(0, "l", 2, 1))},
		{"b!{l(none).rec x.end}", machineOf(0, states(b, endState()), edgeTo(0, "l", 0, 1))},
		{"rec x.b!{l(none).x}", machineOf(0, states(b), edgeTo(0, "l", 0, 0))},
		{"rec x.b!{l(none).c?{m(int).x},n(text).end}", machineOf(0, states(b, c, endState()), edgeTo(0, "l", 0, 1), edgeTo(0, "n", 2, 2), edgeTo(1, "m", 1, 0))},
		{"rec x.rec y.b!{l(none).x,m(none).y}", machineOf(0, states(b), edgeTo(0, "l", 0, 0), edgeTo(0, "m", 0, 0))},
		{"c?{z(none).rec x.rec y.b!{l(none).x,m(none).y,n(none).end}}", machineOf(0, states(c, b, endState()), edgeTo(0, "z", 0, 1), edgeTo(1, "l", 0, 1), edgeTo(1, "m", 0, 1), edgeTo(1, "n", 0, 2))},
		{"rec x.b!{l(none).rec y.c?{m(none).x,n(none).y}}", machineOf(0, states(b, c), edgeTo(0, "l", 0, 1), edgeTo(1, "m", 0, 0), edgeTo(1, "n", 0, 1))},
		{"rec x.b!{l(none).rec y.x}", machineOf(0, states(b), edgeTo(0, "l", 0, 0))},
		{"c?{k(none).rec x.b!{l(none).rec y.rec z.x,m(none).end}}", machineOf(0, states(c, b, endState()), edgeTo(0, "k", 0, 1), edgeTo(1, "l", 0, 1), edgeTo(1, "m", 0, 2))},
		{"b!{l(none).rec x.b!{m(none).x},n(none).rec x.c?{o(none).x}}", machineOf(0, states(b, b, c), edgeTo(0, "l", 0, 1), edgeTo(0, "n", 0, 2), edgeTo(1, "m", 0, 1), edgeTo(2, "o", 0, 2))},
		{"b!{z(none).end,a(int).end,m(text).end}", machineOf(0, states(b, endState(), endState(), endState()), edgeTo(0, "a", 1, 2), edgeTo(0, "m", 2, 3), edgeTo(0, "z", 0, 1))},
		{"b!{l2(none).end,l_(none).end,la(none).end,l(none).end}", machineOf(0, states(b, endState(), endState(), endState(), endState()), edgeTo(0, "l", 0, 4), edgeTo(0, "l2", 0, 1), edgeTo(0, "l_", 0, 2), edgeTo(0, "la", 0, 3))},
		{"b!{z(none).c?{z(none).end,y(none).end},a(none).c?{b(none).end,a(none).end}}", machineOf(0, states(b, c, endState(), endState(), c, endState(), endState()), edgeTo(0, "a", 0, 4), edgeTo(0, "z", 0, 1), edgeTo(1, "y", 0, 3), edgeTo(1, "z", 0, 2), edgeTo(4, "a", 0, 6), edgeTo(4, "b", 0, 5))},
	} {
		got := machineRead(t, k.part)
		if !sameMachine(got, k.want) {
			t.Errorf("the machine of %q: got %v, want %v", k.part, got, k.want)
		}
		holdsMachine(t, k.part, k.want, true)
	}
}

// Each role of a plan that goes round: what it does, from where it does nothing more, and how far that is.
func TestPromise5DeskMachines(t *testing.T) {
	for role, ends := range map[string][]int64{"a": {1, 2, 0}, "b": {2, 5, 4, 3, 1, 0}, "c": {1, 2, 0}, "d": {0}} {
		m := impl.MachineOf(impl.PartOf(impl.DeskPlan(), role).Part)
		if m.Code != impl.OK || len(m.Machine.States) != len(ends) {
			t.Errorf("the machine of %s: got %v", role, m)
			continue
		}
		for state, want := range ends {
			if got := impl.EndOf(m.Machine, int64(state)); got != want {
				t.Errorf("the machine of %s: EndOf %d: got %d, want %d", role, state, got, want)
			}
		}
		holdsMachine(t, role, m.Machine, true)
	}
}

// holdsPromise5 asks of a right part its machine, the way back from its bytes, and the way to its ends.
func holdsPromise5(t *testing.T, part []impl.Node) impl.Machine {
	t.Helper()
	before := slices.Clone(part)
	got := impl.MachineOf(part)
	if got.Code != impl.OK || !sameMachine(got.Machine, ownMachine(part)) {
		t.Errorf("MachineOf(%q): got %v, want %v", drawn(part), got, ownMachine(part))
		return impl.Machine{}
	}
	m := got.Machine
	holdsMachine(t, drawn(part), m, true)
	for state := range int64(len(m.States)) {
		end := impl.EndOf(m, state)
		if end == 0 != (m.States[state].Kind == impl.StEnd) {
			t.Errorf("%q: EndOf %d: got %d", drawn(part), state, end)
		}
		nearer := false
		for _, a := range impl.ActsOf(m, state) {
			next := impl.EndOf(m, impl.StepOf(m, state, a))
			nearer = nearer || next == end-1
			if end < 0 && next >= 0 || next >= 0 && next < end-1 {
				t.Errorf("%q: from %d an end is %d away, behind %v it is %d", drawn(part), state, end, a, next)
			}
		}
		if end > 0 && !nearer {
			t.Errorf("%q: from %d no act leads nearer", drawn(part), state)
		}
	}
	if !slices.Equal(part, before) {
		t.Errorf("the part has been changed: %v", part)
	}
	return m
}

func TestPromise5MachinesOfManyParts(t *testing.T) {
	far, never, unsorted := 0, 0, 0
	for _, plan := range manyPlans(2000) {
		parts := [][]impl.Node{turnedToPart(plan)}
		for _, role := range append(ownRoles(plan), "nobody") {
			if part := impl.PartOf(plan, role); part.Code == impl.OK {
				parts = append(parts, part.Part)
			}
		}
		for _, part := range parts {
			m := holdsPromise5(t, part)
			far += len(slices.DeleteFunc(ownEnds(m), func(end int64) bool { return end < 2 }))
			never += len(slices.DeleteFunc(ownEnds(m), func(end int64) bool { return end >= 0 }))
			if !slices.IsSortedFunc(m.Edges, func(a, b impl.Edge) int { return int(a.To - b.To) }) {
				unsorted++
			}
		}
	}
	if far < 500 || never < 50 || unsorted < 500 {
		t.Errorf("only %d states are far from an end, %d without any, and %d machines have labels that do not rise", far, never, unsorted)
	}
}

func TestPromise5MachinesOfToldPlans(t *testing.T) {
	r := rand.New(rand.NewSource(13))
	asked := 0
	for range 2000 {
		plan := growTold(r, nil, 1+r.Intn(4), nil)
		for _, role := range ownRoles(plan) {
			if part := impl.PartOf(plan, role); part.Code == impl.OK {
				holdsPromise5(t, part.Part)
				asked++
			}
		}
	}
	if asked < 1000 {
		t.Errorf("only %d parts", asked)
	}
}

// All parts of few Nodes.
func TestPromise5MachinesOfEveryShortPart(t *testing.T) {
	kinds := nodes(endNode(), varNode("x"), varNode("y"), recNode("x"), recNode("y"), sendNode("a", 1), recvNode("b", 2), caseNode("m", impl.SoInt), caseNode("l", impl.SoNone))
	asked := 0
	var grow func(l []impl.Node)
	grow = func(l []impl.Node) {
		if impl.PartRight(l) {
			asked++
			holdsPromise5(t, l)
		} else {
			refusesMachine(t, "short", l, impl.ErrForm)
		}
		// What is whole, or no beginning of a part, stays wrong with more behind it.
		if parents, whole := parentsOf(l); whole || parents == nil || len(l) == 8 {
			return
		}
		for _, n := range kinds {
			grow(append(slices.Clone(l), n))
		}
	}
	grow(nil)
	if asked < 200 {
		t.Errorf("only %d parts are right", asked)
	}
}

func TestPromise5GreatParts(t *testing.T) {
	for _, l := range [][]impl.Node{wideRow(40), wideRow(39), deepRow(10), msgsRow(10), recsRow(10), casesRow(4, "o", "n", "m", "l"), rowOf(nodes(recNode("x")), msgsRow(9)[:18], nodes(varNode("x")))} {
		holdsPromise5(t, turnedToPart(l))
	}
	long := strings.Repeat("n", 20)
	holdsPromise5(t, nodes(recNode(long), sendNode(long, 2), caseNode(long, 2), varNode(long), caseNode(long[1:], 1), endNode()))
}

func TestPromise5PartsThatAreNotRight(t *testing.T) {
	said := oneSaid("a", "b", "l")
	for what, row := range map[string][]impl.Node{
		"nothing":                    nil,
		"nothing at all":             {},
		"a plan":                     rowOf(said, nodes(endNode())),
		"a plan with a loop":         rowOf(nodes(recNode("x")), said, nodes(varNode("x"))),
		"a plan within a part":       rowOf(nodes(sendNode("b", 1), caseNode("l", 0)), said, nodes(endNode())),
		"the desk's plan":            impl.DeskPlan(),
		"an NdVar alone":             nodes(varNode("x")),
		"an NdVar in its NdRec":      nodes(recNode("x"), varNode("x")),
		"an NdRec alone":             nodes(recNode("x")),
		"a case alone":               nodes(caseNode("l", 0), endNode()),
		"a case too few":             nodes(sendNode("b", 2), caseNode("l", 0), endNode()),
		"a case too many":            nodes(sendNode("b", 1), caseNode("l", 0), endNode(), caseNode("m", 0), endNode()),
		"two cases alike":            nodes(sendNode("b", 2), caseNode("l", 0), endNode(), caseNode("l", 1), endNode()),
		"five cases":                 turnedToPart(casesRow(5, "l", "m", "n", "o", "p")),
		"a Peer that is no name":     nodes(sendNode("B", 1), caseNode("l", 0), endNode()),
		"a label that is no name":    nodes(sendNode("b", 1), caseNode("L", 0), endNode()),
		"two parts":                  nodes(endNode(), endNode()),
		"one deeper":                 turnedToPart(deepRow(11)),
		"MaxNodes and one":           turnedToPart(wideRow(41)),
		"MaxList of them":            slices.Repeat(nodes(endNode()), impl.MaxList),
		"MaxList of NdRecs":          slices.Repeat(nodes(recNode("x")), impl.MaxList),
		"a Many beyond all counting": nodes(sendNode("b", math.MaxInt64), caseNode("l", 0), endNode()),
	} {
		refusesMachine(t, what, row, impl.ErrForm)
	}
	for _, size := range []int{impl.MaxList + 1, 100000} {
		refusesMachine(t, "too long", slices.Repeat(nodes(endNode()), size), impl.ErrSize)
		refusesMachine(t, "too long", rowOf(said, slices.Repeat(nodes(endNode()), size)), impl.ErrSize)
	}
}

// circle has count States, each with an Edge of that Label to the next one, the last one an StEnd.
func circle(count int) impl.Machine {
	var m impl.Machine
	for i := range int64(count) {
		if i == int64(count)-1 {
			m.States = append(m.States, endState())
			continue
		}
		m.States = append(m.States, sendState("b"))
		m.Edges = append(m.Edges, edgeTo(i, "l", i%3, i+1))
	}
	return m
}

// fan has one State, and count Edges from it to itself.
func fan(count int) impl.Machine {
	m := impl.Machine{States: states(recvState("b"))}
	for i := range count {
		m.Edges = append(m.Edges, edgeTo(0, "l"+strconv.Itoa(100+i), 0, 0))
	}
	return m
}

func TestPromise5Limits(t *testing.T) {
	long := strings.Repeat("n", 20)
	greatest := impl.Machine{States: slices.Repeat(states(sendState(long)), 40), Start: 39}
	for i := range int64(80) {
		greatest.Edges = append(greatest.Edges, edgeTo(i/2, long[:19]+string(rune('a'+i%2)), 2, 39))
	}
	for _, c := range []struct {
		what  string
		m     impl.Machine
		right bool
	}{
		{"no State", impl.Machine{}, false},
		{"no State, but Edges", impl.Machine{Edges: fan(1).Edges}, false},
		{"one State", machineOf(0, states(endState())), true},
		{"one State that says nothing", machineOf(0, states(sendState("b"))), true},
		{"MaxStates less 1", circle(39), true},
		{"MaxStates", circle(40), true},
		{"MaxStates and one", circle(41), false},
		{"many States", circle(5000), false},
		{"no Edge", fan(0), true},
		{"79 Edges", fan(79), true},
		{"80 Edges", fan(80), true},
		{"81 Edges", fan(81), false},
		{"many Edges", fan(700), false},
		{"the greatest one", greatest, true},
		{"Start is the last one", machineOf(1, states(sendState("b"), endState()), edgeTo(0, "l", 0, 1)), true},
		{"Start below 0", machineOf(-1, states(sendState("b"), endState())), false},
		{"Start one too great", machineOf(2, states(sendState("b"), endState())), false},
		{"Start far below 0", machineOf(math.MinInt64, states(endState())), false},
		{"Start far too great", machineOf(math.MaxInt64, states(endState())), false},
	} {
		holdsMachine(t, c.what, c.m, c.right)
	}
	if size := len(impl.MachineBytes(greatest)); size > impl.MaxBytes {
		t.Errorf("the greatest machine has %d bytes", size)
	}
}

func TestPromise5Rules(t *testing.T) {
	two := states(sendState("b"), recvState("c"), endState())
	for _, c := range []struct {
		what  string
		m     impl.Machine
		right bool
	}{
		{"ordinary", machineOf(0, two, edgeTo(0, "l", 0, 1), edgeTo(0, "m", 1, 2), edgeTo(1, "l", 2, 2)), true},
		{"an StEnd with a Peer", machineOf(0, states(impl.State{Kind: impl.StEnd, Peer: "b"})), false},
		{"a later StEnd with a Peer", machineOf(0, states(sendState("b"), impl.State{Kind: impl.StEnd, Peer: "b"})), false},
		{"an StSend without a Peer", machineOf(0, states(sendState(""))), false},
		{"an StRecv without a Peer", machineOf(0, states(recvState(""))), false},
		{"an StSend whose Peer is no name", machineOf(0, states(endState(), sendState("B"))), false},
		{"an StRecv whose Peer is no name", machineOf(0, states(endState(), recvState("0"))), false},
		{"a Kind below 0", machineOf(0, states(impl.State{Kind: -1, Peer: "b"})), false},
		{"a Kind below 0 without a Peer", machineOf(0, states(impl.State{Kind: -1})), false},
		{"a Kind of 3", machineOf(0, states(impl.State{Kind: 3, Peer: "b"})), false},
		{"a Kind of 3 without a Peer", machineOf(0, states(impl.State{Kind: 3})), false},
		{"From below 0", machineOf(0, two, edgeTo(-1, "l", 0, 1)), false},
		{"From one too great", machineOf(0, two, edgeTo(3, "l", 0, 1)), false},
		{"From far too great", machineOf(0, two, edgeTo(math.MaxInt64, "l", 0, 1)), false},
		{"To below 0", machineOf(0, two, edgeTo(0, "l", 0, -1)), false},
		{"To is 0", machineOf(0, two, edgeTo(1, "l", 0, 0)), true},
		{"To is the last one", machineOf(0, two, edgeTo(1, "l", 0, 2)), true},
		{"To one too great", machineOf(0, two, edgeTo(0, "l", 0, 3)), false},
		{"To far below 0", machineOf(0, two, edgeTo(0, "l", 0, math.MinInt64)), false},
		{"an Edge from an StEnd", machineOf(0, two, edgeTo(2, "l", 0, 1)), false},
		{"an Edge from an StEnd behind others", machineOf(0, two, edgeTo(0, "l", 0, 1), edgeTo(2, "l", 0, 2)), false},
		{"a Sort below 0", machineOf(0, two, edgeTo(0, "l", -1, 1)), false},
		{"a Sort of 2", machineOf(0, two, edgeTo(0, "l", 2, 1)), true},
		{"a Sort of 3", machineOf(0, two, edgeTo(0, "l", 3, 1)), false},
		{"the wrong order by From", machineOf(0, two, edgeTo(1, "l", 0, 1), edgeTo(0, "m", 0, 1)), false},
		{"the right order by From, Labels falling", machineOf(0, two, edgeTo(0, "m", 0, 1), edgeTo(1, "l", 0, 1)), true},
		{"the wrong order by Label", machineOf(0, two, edgeTo(0, "m", 0, 1), edgeTo(0, "l", 0, 2)), false},
		{"the wrong order by Label at the end", machineOf(0, two, edgeTo(0, "k", 0, 1), edgeTo(0, "m", 0, 1), edgeTo(0, "l", 0, 2)), false},
		{"the longer Label first", machineOf(0, two, edgeTo(0, "la", 0, 1), edgeTo(0, "l", 0, 1)), false},
		{"the shorter Label first", machineOf(0, two, edgeTo(0, "l", 0, 1), edgeTo(0, "la", 0, 1)), true},
		{"a digit, a line and a letter", machineOf(0, two, edgeTo(0, "l9", 0, 1), edgeTo(0, "l_", 0, 1), edgeTo(0, "la", 0, 1)), true},
		{"two alike", machineOf(0, two, edgeTo(0, "l", 0, 1), edgeTo(0, "l", 0, 1)), false},
		{"two alike but for Sort", machineOf(0, two, edgeTo(0, "l", 0, 1), edgeTo(0, "l", 1, 1)), false},
		{"two alike but for To", machineOf(0, two, edgeTo(0, "l", 0, 1), edgeTo(0, "l", 0, 2)), false},
		{"two alike but for From", machineOf(0, two, edgeTo(0, "l", 0, 1), edgeTo(1, "l", 0, 1)), true},
	} {
		holdsMachine(t, c.what, c.m, c.right)
	}
}

func TestPromise5Names(t *testing.T) {
	for _, c := range []struct {
		name  string
		right bool
	}{
		{"a", true}, {"z", true}, {"a0_z", true}, {"end", true}, {"rec", true}, {strings.Repeat("n", 20), true}, {strings.Repeat("n", 21), false},
		{"", false}, {"_a", false}, {"0a", false}, {"A", false}, {"aB", false}, {"a b", false}, {"a\n", false}, {"\x00", false}, {"ä", false}, {strings.Repeat("n", impl.MaxBytes+1), false},
	} {
		holdsMachine(t, "to", machineOf(0, states(sendState(c.name), endState()), edgeTo(0, "l", 0, 1)), c.right)
		holdsMachine(t, "from", machineOf(1, states(endState(), recvState(c.name)), edgeTo(1, "l", 0, 1)), c.right)
		holdsMachine(t, "label", machineOf(0, states(sendState("b"), endState()), edgeTo(0, c.name, 0, 1)), c.right)
	}
}

// anyMachine: mostly right, with Edges of which some lead nowhere near an end, or cannot be reached.
func anyMachine(r *rand.Rand) impl.Machine {
	count := 1 + r.Intn(7)
	m := impl.Machine{Start: int64(r.Intn(count))}
	for range count {
		m.States = append(m.States, []impl.State{sendState("b"), recvState("b"), sendState("c"), recvState("c"), endState()}[r.Intn(5)])
	}
	for from, s := range m.States {
		for _, label := range []string{"k", "l", "ma", "mb"} {
			if s.Kind != impl.StEnd && r.Intn(3) == 0 {
				m.Edges = append(m.Edges, edgeTo(int64(from), label, int64(r.Intn(3)), int64(r.Intn(count))))
			}
		}
	}
	return m
}

func TestPromise5ManyMachines(t *testing.T) {
	r := rand.New(rand.NewSource(17))
	wrong := 0
	for range 4000 {
		m := anyMachine(r)
		holdsMachine(t, "any", m, true)
		for range 3 {
			turned := turnedMachine(r, m)
			right := ownMachineRight(turned)
			if !right {
				wrong++
			}
			holdsMachine(t, "turned", turned, right)
		}
	}
	if wrong < 3000 {
		t.Errorf("only %d turned machines are wrong", wrong)
	}
}

func turnedMachine(r *rand.Rand, m impl.Machine) impl.Machine {
	m = copyOf(m)
	words := []string{"", "b", "c", "k", "l", "ma", "mb", "end", "B", "7"}
	num := int64(r.Intn(len(m.States)+3) - 1)
	state := &m.States[r.Intn(len(m.States))]
	edge := &impl.Edge{}
	if len(m.Edges) > 0 {
		edge = &m.Edges[r.Intn(len(m.Edges))]
	}
	switch r.Intn(9) {
	case 0:
		m.Start = num
	case 1:
		state.Kind = int64(r.Intn(5) - 1)
	case 2:
		state.Peer = words[r.Intn(len(words))]
	case 3:
		edge.From = num
	case 4:
		edge.To = num
	case 5:
		edge.Label = words[r.Intn(len(words))]
	case 6:
		edge.Sort = int64(r.Intn(5) - 1)
	case 7:
		m.Edges = append(m.Edges, *edge)
	case 8:
		m.States = m.States[:len(m.States)-1]
	}
	return m
}

func TestPromise5Ends(t *testing.T) {
	line := circle(40)
	for state := range int64(40) {
		if got := impl.EndOf(line, state); got != 39-state {
			t.Errorf("EndOf %d of a line: got %d", state, got)
		}
	}
	b := sendState("b")
	for _, c := range []struct {
		what string
		m    impl.Machine
		want []int64
	}{
		{"an end", machineOf(0, states(endState())), []int64{0}},
		{"two ends", machineOf(0, states(endState(), endState())), []int64{0, 0}},
		{"no Edges", machineOf(0, states(b, endState())), []int64{-1, 0}},
		{"round and round", machineOf(0, states(b, b, endState()), edgeTo(0, "l", 0, 1), edgeTo(1, "l", 0, 0)), []int64{-1, -1, 0}},
		{"round itself", machineOf(0, states(b), edgeTo(0, "l", 0, 0)), []int64{-1}},
		{"a long way first", machineOf(0, states(b, b, b, endState()), edgeTo(0, "l", 0, 1), edgeTo(0, "m", 0, 3), edgeTo(1, "l", 0, 2), edgeTo(2, "l", 0, 3)), []int64{1, 2, 1, 0}},
		{"a short way first", machineOf(0, states(b, b, b, endState()), edgeTo(0, "l", 0, 3), edgeTo(0, "m", 0, 1), edgeTo(1, "l", 0, 2), edgeTo(2, "l", 0, 3)), []int64{1, 2, 1, 0}},
		{"back to what has been gone", machineOf(0, states(b, b, b, endState()), edgeTo(0, "l", 0, 1), edgeTo(1, "l", 0, 0), edgeTo(1, "m", 0, 2), edgeTo(2, "l", 0, 0), edgeTo(2, "m", 0, 3)), []int64{3, 2, 1, 0}},
		{"into a trap or out", machineOf(0, states(b, b, b, endState()), edgeTo(0, "l", 0, 1), edgeTo(0, "m", 0, 2), edgeTo(1, "l", 0, 1), edgeTo(2, "l", 0, 3)), []int64{2, -1, 1, 0}},
		{"two ways of one length", machineOf(0, states(b, b, b, endState(), endState()), edgeTo(0, "l", 0, 1), edgeTo(0, "m", 0, 2), edgeTo(1, "l", 0, 3), edgeTo(2, "l", 0, 4)), []int64{2, 1, 1, 0, 0}},
		{"an end below", machineOf(2, states(endState(), b, b), edgeTo(1, "l", 0, 0), edgeTo(2, "l", 0, 1)), []int64{0, 1, 2}},
	} {
		holdsMachine(t, c.what, c.m, true)
		for state, want := range c.want {
			if got := impl.EndOf(c.m, int64(state)); got != want {
				t.Errorf("%s: EndOf %d: got %d, want %d", c.what, state, got, want)
			}
		}
	}
}

// someMachines: of ordinary parts, and some that no part has.
func someMachines(t *testing.T) []impl.Machine {
	t.Helper()
	return []impl.Machine{
		machineRead(t, "end"), machineRead(t, "b!{l(int).end}"), machineRead(t, "rec x.b!{hi(int).x,no(text).c?{m(none).end}}"),
		impl.MachineOf(impl.PartOf(impl.DeskPlan(), "b").Part).Machine,
		machineOf(1, states(recvState("b"), sendState("end")), edgeTo(1, "rec", 2, 0)),
		machineOf(0, states(sendState("b"))),
	}
}

func bytesAsOwn(t *testing.T, text string) {
	t.Helper()
	m, ok := ownRead(text)
	if !ok {
		refusesBytes(t, text, impl.ErrSyntax)
		return
	}
	got := impl.MachineRead(text)
	if got.Code != impl.OK || !sameMachine(got.Machine, m) || impl.MachineBytes(got.Machine) != text {
		t.Errorf("MachineRead(%q): got %v, want %v", text, got, m)
	}
}

func TestPromise5KnownBytes(t *testing.T) {
	for text, m := range map[string]impl.Machine{
		"\x02\x00\x00\x00\x00":                                              machineOf(0, states(endState())),
		"\x04\x02\x02b\x00\x00\x02\x00\x02l\x02\x02\x00":                    machineOf(0, states(sendState("b"), endState()), edgeTo(0, "l", 1, 1)),
		"\x04\x00\x00\x04\x06abc\x04\x02\x02k\x04\x00\x02\x02l\x00\x02\x02": machineOf(1, states(endState(), recvState("abc")), edgeTo(1, "k", 2, 0), edgeTo(1, "l", 0, 1)),
	} {
		if got := impl.MachineBytes(m); got != text {
			t.Errorf("MachineBytes(%v): got %q, want %q", m, got, text)
		}
		if got := impl.MachineRead(text); got.Code != impl.OK || !sameMachine(got.Machine, m) {
			t.Errorf("MachineRead(%q): got %v", text, got)
		}
	}
}

func TestPromise5BytesNearby(t *testing.T) {
	for _, m := range someMachines(t) {
		text := impl.MachineBytes(m)
		for i := range text {
			refusesBytes(t, text[:i], impl.ErrSyntax)
			refusesBytes(t, text[i+1:], impl.ErrSyntax)
			bytesAsOwn(t, text[:i]+text[i+1:])
			for b := range 256 {
				bytesAsOwn(t, text[:i]+string([]byte{byte(b)})+text[i+1:])
				bytesAsOwn(t, text[:i]+string([]byte{byte(b)})+text[i:])
			}
		}
		for b := range 256 {
			refusesBytes(t, text+string([]byte{byte(b)}), impl.ErrSyntax)
		}
		refusesBytes(t, text+text, impl.ErrSyntax)
	}
}

// Each number of the bytes, those of lengths among them, by turns in one byte more than it needs, and as another one.
func TestPromise5NumbersInBytes(t *testing.T) {
	for _, m := range someMachines(t) {
		count := 0
		putBy(m, func(int64) string { count++; return "" })
		for at := range count {
			turned := func(put func(n int64) string) string {
				i := -1
				return putBy(m, func(n int64) string {
					if i++; i == at {
						return put(n)
					}
					return varint(n)
				})
			}
			refusesBytes(t, turned(func(n int64) string { b := binary.AppendVarint(nil, n); b[len(b)-1] |= 128; return string(b) + "\x00" }), impl.ErrSyntax)
			refusesBytes(t, turned(func(int64) string { return "\xff\xff\xff\xff\xff\xff\xff\xff\xff\x02" }), impl.ErrSyntax)
			for _, other := range []int64{-1, -2, 1, 2, 41, 81, 8000, 8001, math.MinInt64, math.MaxInt64} {
				bytesAsOwn(t, turned(func(n int64) string { return varint(n + other) }))
				bytesAsOwn(t, turned(func(int64) string { return varint(other) }))
			}
		}
	}
}

// Where a count that may not be is the last number, nothing is read behind it that could be missed.
func TestPromise5CountsAtTheEnd(t *testing.T) {
	for _, many := range []int64{-1, 41, 81, math.MinInt64, math.MaxInt64} {
		refusesBytes(t, varint(many), impl.ErrSyntax)
		refusesBytes(t, "\x02\x00\x00"+varint(many), impl.ErrSyntax)
		refusesBytes(t, "\x02\x00\x00"+varint(many)+"\x00", impl.ErrSyntax)
	}
	for _, short := range []string{"\x00", "\x02", "\x02\x00", "\x02\x00\x00", "\x02\x00\x00\x00"} {
		refusesBytes(t, short, impl.ErrSyntax)
	}
}

func TestPromise5ByteSizes(t *testing.T) {
	for _, fill := range []string{"\x00", "\x02", "n", "\xff", "\x50\x02\x02b"} {
		over := strings.Repeat(fill, impl.MaxBytes+1)
		refusesBytes(t, over[:impl.MaxBytes], impl.ErrSyntax)
		refusesBytes(t, over[:impl.MaxBytes+1], impl.ErrSize)
		refusesBytes(t, over+fill, impl.ErrSize)
	}
	right := impl.MachineBytes(machineOf(0, states(endState())))
	refusesBytes(t, right+strings.Repeat("\x00", impl.MaxBytes-len(right)), impl.ErrSyntax)
	refusesBytes(t, right+strings.Repeat("\x00", impl.MaxBytes-len(right)+1), impl.ErrSize)
	refusesBytes(t, "", impl.ErrSyntax)
}

func TestPromise6Steps(t *testing.T) {
	r := rand.New(rand.NewSource(19))
	machines := append(someMachines(t), circle(40), fan(80))
	for range 100 {
		machines = append(machines, anyMachine(r))
	}
	for _, m := range machines {
		for from := range int64(len(m.States)) {
			for _, e := range m.Edges {
				whole := impl.Act{Kind: m.States[e.From].Kind, Peer: m.States[e.From].Peer, Label: e.Label, Sort: e.Sort}
				for _, a := range actsNearby(whole) {
					if got, want := impl.StepOf(m, from, a), ownStep(m, from, a); got != want {
						t.Errorf("StepOf(%v, %d, %v): got %d, want %d", m, from, a, got, want)
					}
				}
			}
		}
	}
	m := machineOf(0, states(sendState("b"), endState()), edgeTo(0, "l", impl.SoInt, 1))
	right := impl.Act{Kind: impl.StSend, Peer: "b", Label: "l", Sort: impl.SoInt}
	for what, a := range map[string]impl.Act{
		"another Kind":  {Kind: impl.StRecv, Peer: "b", Label: "l", Sort: impl.SoInt},
		"no Kind":       {Peer: "b", Label: "l", Sort: impl.SoInt},
		"another Peer":  {Kind: impl.StSend, Peer: "c", Label: "l", Sort: impl.SoInt},
		"no Peer":       {Kind: impl.StSend, Label: "l", Sort: impl.SoInt},
		"another Label": {Kind: impl.StSend, Peer: "b", Label: "m", Sort: impl.SoInt},
		"no Label":      {Kind: impl.StSend, Peer: "b", Sort: impl.SoInt},
		"another Sort":  {Kind: impl.StSend, Peer: "b", Label: "l", Sort: impl.SoText},
		"no Sort":       {Kind: impl.StSend, Peer: "b", Label: "l"},
	} {
		if got := impl.StepOf(m, 0, a); got != -1 {
			t.Errorf("StepOf by %s: got %d", what, got)
		}
		if got := impl.Follow(m, []impl.Act{a}); got != -1 {
			t.Errorf("Follow by %s: got %d", what, got)
		}
	}
	if got := []int64{impl.StepOf(m, 0, right), impl.StepOf(m, 1, right), impl.Follow(m, []impl.Act{right}), impl.Follow(m, []impl.Act{right, right})}; !slices.Equal(got, []int64{1, -1, 1, -2}) {
		t.Errorf("the right Act: got %v", got)
	}
}

// holdsFollow: just as far as StepOf leads somewhere, act by act; and who watches finds the first one that does not.
func holdsFollow(t *testing.T, m impl.Machine, acts []impl.Act) int64 {
	t.Helper()
	before := slices.Clone(acts)
	state, first := m.Start, int64(-1)
	for i, a := range acts {
		if state = ownStep(m, state, a); state < 0 {
			state, first = -1-int64(i), int64(i)
			break
		}
	}
	if len(acts) > 60 {
		state, first = -1, -1
	}
	if got := impl.Follow(m, acts); got != state {
		t.Errorf("Follow(%v, %v): got %d, want %d", m, acts, got, state)
	}
	if got := impl.Watch(m, acts); got != first {
		t.Errorf("Watch(%v, %v): got %d, want %d", m, acts, got, first)
	}
	if !slices.Equal(acts, before) {
		t.Errorf("the acts have been changed: %v", acts)
	}
	return state
}

func TestPromise6Walks(t *testing.T) {
	r := rand.New(rand.NewSource(23))
	followed, broken := 0, 0
	for _, plan := range manyPlans(600) {
		m := ownMachine(turnedToPart(plan))
		for range 4 {
			acts := walk(r, m, r.Intn(62))
			if holdsFollow(t, m, acts) >= 0 {
				followed++
			}
			if len(acts) == 0 {
				continue
			}
			turned := slices.Clone(acts)
			at := r.Intn(len(turned))
			near := actsNearby(turned[at])
			turned[at] = near[r.Intn(len(near))]
			if holdsFollow(t, m, turned) < -1 {
				broken++
			}
			holdsFollow(t, m, append(slices.Clone(acts), impl.Act{}))
			holdsFollow(t, m, slices.Delete(slices.Clone(acts), at, at+1))
			holdsFollow(t, m, slices.Insert(slices.Clone(acts), at, acts[0]))
		}
	}
	if followed < 500 || broken < 100 {
		t.Errorf("only %d walks are followed, and %d are broken within", followed, broken)
	}
}

// walk tells at most that many acts that a Machine can be followed by.
func walk(r *rand.Rand, m impl.Machine, most int) []impl.Act {
	var acts []impl.Act
	state := m.Start
	for len(acts) < most {
		next := ownActs(m, state)
		if len(next) == 0 {
			break
		}
		a := next[r.Intn(len(next))]
		acts = append(acts, a)
		state = ownStep(m, state, a)
	}
	return acts
}

func TestPromise6FollowEdges(t *testing.T) {
	m := machineRead(t, "c?{go(none).rec x.b!{l(int).c?{m(none).x,n(text).end}}}")
	start := impl.Act{Kind: impl.StRecv, Peer: "c", Label: "go"}
	say := impl.Act{Kind: impl.StSend, Peer: "b", Label: "l", Sort: impl.SoInt}
	hear := impl.Act{Kind: impl.StRecv, Peer: "c", Label: "m"}
	long := []impl.Act{start}
	for len(long) < 100000 {
		long = append(long, say, hear)
	}
	with := func(count int, at int, a impl.Act) []impl.Act {
		acts := slices.Clone(long[:count])
		acts[at] = a
		return acts
	}
	for _, c := range []struct {
		what string
		acts []impl.Act
		want int64
	}{
		{"none", nil, 0},
		{"none at all", []impl.Act{}, 0},
		{"one", long[:1], 1},
		{"two", long[:2], 2},
		{"three", long[:3], 1},
		{"59", long[:59], 1},
		{"60", long[:60], 2},
		{"61", long[:61], -1},
		{"62", long[:62], -1},
		{"MaxList", long[:impl.MaxList], -1},
		{"MaxList and one", long[:impl.MaxList+1], -1},
		{"very many", long, -1},
		{"the first of one", []impl.Act{say}, -1},
		{"the first of 60", with(60, 0, say), -1},
		{"the second of 60", with(60, 1, hear), -2},
		{"one in between of 60", with(60, 29, hear), -30},
		{"the last of 60", with(60, 59, hear), -60},
		{"the last of two", with(2, 1, start), -2},
		{"one in between of 61", with(61, 29, hear), -1},
		{"the last of 61", with(61, 60, say), -1},
		{"two of 60: the first one counts", append(with(50, 20, say), slices.Repeat([]impl.Act{{}}, 10)...), -21},
		{"behind the end", []impl.Act{start, say, {Kind: impl.StRecv, Peer: "c", Label: "n", Sort: impl.SoText}, say}, -4},
		{"to the end", []impl.Act{start, say, {Kind: impl.StRecv, Peer: "c", Label: "n", Sort: impl.SoText}}, 3},
		{"nothing said", []impl.Act{start, {}}, -2},
	} {
		if got := impl.Follow(m, c.acts); got != c.want {
			t.Errorf("Follow of %s: got %d, want %d", c.what, got, c.want)
		}
	}
	later := copyOf(m)
	later.Start = 2
	if got := impl.Follow(later, []impl.Act{hear, say}); got != 2 {
		t.Errorf("Follow from a later Start: got %d", got)
	}
	end := machineRead(t, "end")
	if got := []int64{impl.Follow(end, nil), impl.Follow(end, []impl.Act{{}}), impl.Follow(end, long[:61])}; !slices.Equal(got, []int64{0, -1, -1}) {
		t.Errorf("Follow of an end alone: got %v", got)
	}
}

func TestMachineNewMemory(t *testing.T) {
	part := impl.PartRead("rec name.peer!{label(int).name,other(none).third?{word(text).end}}").Part
	m, other := impl.MachineOf(part).Machine, impl.MachineOf(part).Machine
	for _, n := range part {
		for _, s := range m.States {
			if sameMemory(s.Peer, n.Peer) {
				t.Error("a State shares memory with the part")
			}
		}
		for _, e := range m.Edges {
			if sameMemory(e.Label, n.Name) {
				t.Error("an Edge shares memory with the part")
			}
		}
	}
	text := impl.MachineBytes(m)
	read, again := impl.MachineRead(text).Machine, impl.MachineRead(text).Machine
	for _, s := range read.States {
		if sameMemory(s.Peer, text) {
			t.Error("a State shares memory with its bytes")
		}
	}
	for _, e := range read.Edges {
		if sameMemory(e.Label, text) {
			t.Error("an Edge shares memory with its bytes")
		}
	}
	acts := impl.ActsOf(m, 0)
	for _, a := range acts {
		if sameMemory(a.Peer, m.States[0].Peer) || sameMemory(a.Label, m.Edges[0].Label) || sameMemory(a.Label, m.Edges[1].Label) {
			t.Error("an Act shares memory with its Machine")
		}
	}
	want := copyOf(m)
	acts[0] = impl.Act{Label: "zz"}
	other.States[0], other.Edges[0] = impl.State{Kind: 9}, impl.Edge{From: 9}
	again.States[0], again.Edges[0] = impl.State{Kind: 9}, impl.Edge{From: 9}
	if !sameMachine(m, want) || !sameMachine(read, want) || !sameMachine(impl.MachineOf(part).Machine, want) || impl.ActsOf(m, 0)[0].Label != "label" {
		t.Error("two answers share their memory, or one with an argument")
	}
}

// What one call has asked of a Machine is not used up for the next one.
func TestMachineNothingKept(t *testing.T) {
	m := impl.MachineOf(impl.PartOf(impl.DeskPlan(), "b").Part).Machine
	ask := impl.Act{Kind: impl.StRecv, Peer: "a", Label: "ask", Sort: impl.SoInt}
	first := []any{impl.ActsOf(m, 0), impl.StepOf(m, 0, ask), impl.Follow(m, []impl.Act{ask}), impl.EndOf(m, 1), impl.MachineBytes(m)}
	for range 50 {
		next := []any{impl.ActsOf(m, 0), impl.StepOf(m, 0, ask), impl.Follow(m, []impl.Act{ask}), impl.EndOf(m, 1), impl.MachineBytes(m)}
		if !reflect.DeepEqual(first, next) {
			t.Fatalf("got %v, then %v", first, next)
		}
	}
}
