package tests

import (
	"math/rand"
	"slices"
	"strconv"
	"strings"
	"testing"

	"loop.example/g00574/impl"
)

var sorts = []string{"none", "int", "text"}

func endNode() impl.Node {
	return impl.Node{Op: impl.NdEnd}
}

func varNode(name string) impl.Node {
	return impl.Node{Op: impl.NdVar, Name: name}
}

func recNode(name string) impl.Node {
	return impl.Node{Op: impl.NdRec, Name: name}
}

func msgNode(from string, to string, many int64) impl.Node {
	return impl.Node{Op: impl.NdMsg, Name: from, Peer: to, Many: many}
}

func caseNode(label string, sort int64) impl.Node {
	return impl.Node{Op: impl.NdCase, Name: label, Sort: sort}
}

// oneSaid is a message of one case, ahead of how it goes on.
func oneSaid(from string, to string, label string) []impl.Node {
	return []impl.Node{msgNode(from, to, 1), caseNode(label, impl.SoNone)}
}

func isTalk(n impl.Node) bool {
	return n.Op == impl.NdMsg || n.Op == impl.NdSend || n.Op == impl.NdRecv
}

func rowOf(parts ...[]impl.Node) []impl.Node {
	return slices.Concat(parts...)
}

func nodes(l ...impl.Node) []impl.Node {
	return l
}

// drawn is the text of a row whose Nodes are just one plan or part, by a stack of the cases that are still to come.
func drawn(l []impl.Node) string {
	text := ""
	var left []int64
	for _, n := range l {
		switch n.Op {
		case impl.NdEnd:
			text += "end"
		case impl.NdVar:
			text += n.Name
		case impl.NdRec:
			text += "rec " + n.Name + "."
		case impl.NdMsg, impl.NdSend, impl.NdRecv:
			text += map[int64]string{impl.NdMsg: n.Name + ">" + n.Peer, impl.NdSend: n.Peer + "!", impl.NdRecv: n.Peer + "?"}[n.Op] + "{"
			left = append(left, n.Many)
		case impl.NdCase:
			text += n.Name + "(" + sorts[n.Sort] + ")."
			left[len(left)-1]--
		}
		if n.Op != impl.NdEnd && n.Op != impl.NdVar {
			continue
		}
		for len(left) > 0 && left[len(left)-1] == 0 {
			text += "}"
			left = left[:len(left)-1]
		}
		if len(left) > 0 {
			text += ","
		}
	}
	return text
}

// parentsOf tells in which Node each stands (-1 outermost; a case in its message, a plan in its case or NdRec), and whether the row is just one plan or part.
func parentsOf(l []impl.Node) ([]int, bool) {
	parents := make([]int, len(l))
	type want struct {
		parent int
		isCase bool
	}
	wants := []want{{-1, false}}
	for i, n := range l {
		if len(wants) == 0 {
			return nil, false
		}
		w := wants[len(wants)-1]
		wants = wants[:len(wants)-1]
		parents[i] = w.parent
		if w.isCase != (n.Op == impl.NdCase) {
			return nil, false
		}
		switch n.Op {
		case impl.NdEnd, impl.NdVar:
		case impl.NdRec, impl.NdCase:
			wants = append(wants, want{i, false})
		case impl.NdMsg, impl.NdSend, impl.NdRecv:
			if n.Many < 1 || n.Many > 4 {
				return nil, false
			}
			for range n.Many {
				wants = append(wants, want{i, true})
			}
		default:
			return nil, false
		}
	}
	return parents, len(wants) == 0
}

func fieldsRight(n impl.Node) bool {
	name := impl.NameRight(n.Name) && n.Name != "end" && n.Name != "rec"
	peer := impl.NameRight(n.Peer) && n.Peer != "end" && n.Peer != "rec"
	switch n.Op {
	case impl.NdEnd:
		return n.Name == "" && n.Peer == "" && n.Many == 0 && n.Sort == 0
	case impl.NdVar, impl.NdRec:
		return name && n.Peer == "" && n.Many == 0 && n.Sort == 0
	case impl.NdMsg:
		return name && peer && n.Name != n.Peer && n.Sort == 0
	case impl.NdCase:
		return name && n.Peer == "" && n.Many == 0 && n.Sort >= 0 && n.Sort <= 2
	}
	return false
}

// placeRight asks the rules of one Node against those that it stands in, from the nearest on.
func placeRight(l []impl.Node, parents []int, at int) bool {
	deep, said, found := 0, false, false
	for i := at; i >= 0; i = parents[i] {
		if l[i].Op == impl.NdRec || isTalk(l[i]) {
			deep++
		}
		said = said || isTalk(l[i])
		if i != at && l[i].Op == impl.NdRec && l[i].Name == l[at].Name && !found {
			found = true
			if l[at].Op == impl.NdRec || l[at].Op == impl.NdVar && !said {
				return false
			}
		}
	}
	return deep <= 10 && (l[at].Op != impl.NdVar || found)
}

// ownRight asks each rule of chapter 3 by itself.
func ownRight(l []impl.Node) bool {
	return rulesHold(l, fieldsRight)
}

func rulesHold(l []impl.Node, fields func(impl.Node) bool) bool {
	parents, ok := parentsOf(l)
	if !ok || len(l) > 40 {
		return false
	}
	roles := map[string]int{}
	labels := map[string]int{}
	for i, n := range l {
		if !fields(n) || !placeRight(l, parents, i) {
			return false
		}
		if n.Op == impl.NdMsg {
			roles[n.Name]++
		}
		if isTalk(n) {
			roles[n.Peer]++
		}
		if n.Op == impl.NdCase {
			labels[strconv.Itoa(parents[i])+" "+n.Name]++
		}
	}
	for _, count := range labels {
		if count > 1 {
			return false
		}
	}
	return len(roles) <= 4
}

func ownRoles(l []impl.Node) []string {
	var roles []string
	for _, n := range l {
		if n.Op == impl.NdMsg {
			roles = append(roles, n.Name, n.Peer)
		}
	}
	slices.Sort(roles)
	return slices.Compact(roles)
}

func ownCount(l []impl.Node) int64 {
	return int64(strings.Count(drawn(l), ">"))
}

// holdsPlan asks all six calls of a row of which it is known whether it is right.
func holdsPlan(t *testing.T, what string, l []impl.Node, right bool) {
	t.Helper()
	before := slices.Clone(l)
	if got := impl.PlanRight(l); got != right {
		t.Errorf("%s: PlanRight(%v): got %v", what, l, got)
		return
	}
	text, roles, count := "", []string(nil), int64(0)
	if right {
		text, roles, count = drawn(l), ownRoles(l), ownCount(l)
		read := impl.PlanRead(text)
		if read.Code != impl.OK || !slices.Equal(read.Plan, l) {
			t.Errorf("%s: PlanRead(%q): got %v", what, text, read)
		}
	}
	if got := impl.PlanText(l); got != text {
		t.Errorf("%s: PlanText: got %q, want %q", what, got, text)
	}
	if got := impl.RolesOf(l); !slices.Equal(got, roles) {
		t.Errorf("%s: RolesOf: got %q, want %q", what, got, roles)
	}
	for _, n := range l {
		for _, name := range []string{n.Name, n.Peer, n.Name + "x"} {
			if got, want := impl.TalksIn(l, name), slices.Contains(roles, name); got != want {
				t.Errorf("%s: TalksIn of %q: got %v", what, name, got)
			}
		}
	}
	if got := impl.NodesOf(l); got != count {
		t.Errorf("%s: NodesOf: got %d, want %d", what, got, count)
	}
	if !slices.Equal(l, before) {
		t.Errorf("%s: the row has been changed: %v", what, l)
	}
}

func refusesText(t *testing.T, text string, code int64) {
	t.Helper()
	got := impl.PlanRead(text)
	if got.Code != code || len(got.Plan) != 0 {
		t.Errorf("PlanRead(%.80q): got %v, want the code %d", text, got, code)
	}
}

func TestPromise3KnownTexts(t *testing.T) {
	for _, c := range []struct {
		text string
		want []impl.Node
	}{
		{"end", nodes(endNode())},
		{"rec x.end", nodes(recNode("x"), endNode())},
		{"rec x.rec y.end", nodes(recNode("x"), recNode("y"), endNode())},
		{"a>b{l(none).end}", nodes(msgNode("a", "b", 1), caseNode("l", impl.SoNone), endNode())},
		{"a>b{l(int).end}", nodes(msgNode("a", "b", 1), caseNode("l", impl.SoInt), endNode())},
		{"a>b{l(text).end}", nodes(msgNode("a", "b", 1), caseNode("l", impl.SoText), endNode())},
		{"rec x.a>b{hi(int).x,no(none).end}", nodes(recNode("x"), msgNode("a", "b", 2), caseNode("hi", impl.SoInt), varNode("x"), caseNode("no", impl.SoNone), endNode())},
		{"b>a{l(none).rec x.end,m(none).c>a{l(none).end}}", nodes(msgNode("b", "a", 2), caseNode("l", impl.SoNone), recNode("x"), endNode(), caseNode("m", impl.SoNone), msgNode("c", "a", 1), caseNode("l", impl.SoNone), endNode())},
		{"rec a.a>b{a(none).a}", nodes(recNode("a"), msgNode("a", "b", 1), caseNode("a", impl.SoNone), varNode("a"))},
		{"a>b{none(none).end,int(int).end,text(text).end}", nodes(msgNode("a", "b", 3), caseNode("none", impl.SoNone), endNode(), caseNode("int", impl.SoInt), endNode(), caseNode("text", impl.SoText), endNode())},
		{"rec recs.endx>rec_{end0(none).recs}", nodes(recNode("recs"), msgNode("endx", "rec_", 1), caseNode("end0", impl.SoNone), varNode("recs"))},
	} {
		got := impl.PlanRead(c.text)
		if got.Code != impl.OK || !slices.Equal(got.Plan, c.want) {
			t.Errorf("PlanRead(%q): got %v", c.text, got)
		}
		if text := impl.PlanText(c.want); text != c.text {
			t.Errorf("PlanText: got %q, want %q", text, c.text)
		}
		holdsPlan(t, c.text, c.want, true)
	}
}

// All rows of few Nodes: just those are right of which the rules, asked one by one, say so.
func TestPromise3EveryShortRow(t *testing.T) {
	kinds := nodes(endNode(), varNode("x"), varNode("y"), recNode("x"), recNode("y"), msgNode("a", "b", 1), msgNode("c", "b", 2), caseNode("l", impl.SoInt), caseNode("m", impl.SoNone))
	right, all := 0, 0
	var grow func(l []impl.Node)
	grow = func(l []impl.Node) {
		all++
		want := ownRight(l)
		if got := impl.PlanRight(l); got != want {
			t.Errorf("PlanRight(%v): got %v", l, got)
		}
		if want {
			right++
			holdsPlan(t, "short", l, true)
		}
		if len(l) == 6 {
			return
		}
		for _, n := range kinds {
			grow(append(slices.Clone(l), n))
		}
	}
	grow(nil)
	if right < 50 || all < 100*right {
		t.Errorf("of %d rows only %d are right", all, right)
	}
}

// growPlan adds a plan that is right but, may be, for its size.
func growPlan(r *rand.Rand, l []impl.Node, around []impl.Node) []impl.Node {
	names := []string{"x", "y", "z"}
	roles := []string{"a", "b", "c_1", "d"}
	free := slices.DeleteFunc(slices.Clone(names), func(name string) bool { return slices.Contains(around, recNode(name)) })
	pick := r.Intn(8)
	if len(around) >= 1+r.Intn(10) {
		pick = r.Intn(3)
	}
	switch {
	case pick == 0:
		return append(l, endNode())
	case pick <= 2:
		for i, n := range around {
			said := slices.ContainsFunc(around[i:], func(m impl.Node) bool { return m.Op == impl.NdMsg })
			if n.Op == impl.NdRec && said && r.Intn(2) == 0 {
				return append(l, varNode(n.Name))
			}
		}
		return append(l, endNode())
	case pick == 3 && len(free) > 0:
		n := recNode(free[r.Intn(len(free))])
		return growPlan(r, append(l, n), append(slices.Clone(around), n))
	}
	order := r.Perm(4)
	n := msgNode(roles[order[0]], roles[order[1]], int64(1+r.Intn(4)))
	l = append(l, n)
	for i := range n.Many {
		l = append(l, caseNode([]string{"l", "m", "no", "hi"}[(order[2]+int(i))%4], int64(r.Intn(3))))
		l = growPlan(r, l, append(slices.Clone(around), n))
	}
	return l
}

func manyPlans(count int) [][]impl.Node {
	r := rand.New(rand.NewSource(3))
	var plans [][]impl.Node
	for len(plans) < count {
		if l := growPlan(r, nil, nil); len(l) <= impl.MaxNodes {
			plans = append(plans, l)
		}
	}
	return plans
}

func TestPromise3ManyPlansComeBack(t *testing.T) {
	for _, l := range manyPlans(3000) {
		holdsPlan(t, "grown", l, true)
	}
}

func TestPromise3TurnedRows(t *testing.T) {
	r := rand.New(rand.NewSource(5))
	words := []string{"", "a", "b", "c_1", "d", "e", "x", "y", "l", "end", "rec", "A", "9"}
	wrong := 0
	for _, l := range manyPlans(3000) {
		for range 12 {
			turned := slices.Clone(l)
			at := r.Intn(len(turned))
			switch r.Intn(8) {
			case 0:
				turned[at].Op = int64(r.Intn(9) - 1)
			case 1:
				turned[at].Name = words[r.Intn(len(words))]
			case 2:
				turned[at].Peer = words[r.Intn(len(words))]
			case 3:
				turned[at].Many = int64(r.Intn(7) - 1)
			case 4:
				turned[at].Sort = int64(r.Intn(5) - 1)
			case 5:
				turned = slices.Delete(turned, at, at+1)
			case 6:
				turned = slices.Insert(turned, at, turned[r.Intn(len(turned))])
			case 7:
				turned[at] = l[r.Intn(len(l))]
			}
			right := ownRight(turned)
			if !right {
				wrong++
			}
			holdsPlan(t, "turned", turned, right)
		}
	}
	if wrong < 10000 {
		t.Errorf("only %d turned rows are wrong", wrong)
	}
}

// deepRow: count NdRecs and NdMsgs by turns, one in the other.
func deepRow(count int) []impl.Node {
	var l []impl.Node
	for i := range count {
		if i%2 == 0 {
			l = append(l, recNode("x"+strconv.Itoa(i)))
		} else {
			l = append(l, oneSaid("a", "b", "l")...)
		}
	}
	return append(l, endNode())
}

func recsRow(count int) []impl.Node {
	var l []impl.Node
	for i := range count {
		l = append(l, recNode("x"+strconv.Itoa(i)))
	}
	return append(l, endNode())
}

func msgsRow(count int) []impl.Node {
	var l []impl.Node
	for range count {
		l = append(l, oneSaid("a", "b", "l")...)
	}
	return append(l, endNode())
}

// wideRow: messages of four cases (9 Nodes each, in the place of one end), and NdRecs in the first case and in the last one till it has that many.
func wideRow(count int) []impl.Node {
	l := nodes(endNode())
	for len(l)+8 <= count {
		whole := nodes(msgNode("a", "b", 4))
		for _, label := range []string{"k", "l", "m"} {
			whole = append(whole, caseNode(label, impl.SoText), endNode())
		}
		l = rowOf(whole, nodes(caseNode("n", impl.SoInt)), l)
	}
	for i := 0; len(l) < count; i++ {
		at := 2
		if i%2 == 0 {
			at = len(l) - 1
		}
		l = slices.Insert(l, at, recNode("x"+strconv.Itoa(i)))
	}
	return l
}

func casesRow(many int64, labels ...string) []impl.Node {
	l := nodes(msgNode("a", "b", many))
	for _, label := range labels {
		l = append(l, caseNode(label, impl.SoNone), endNode())
	}
	return l
}

func TestPromise3Limits(t *testing.T) {
	for _, c := range []struct {
		what  string
		row   []impl.Node
		right bool
	}{
		{"MaxNodes less 1", wideRow(39), true},
		{"MaxNodes", wideRow(40), true},
		{"MaxNodes and one", wideRow(41), false},
		{"MaxDeep by turns", deepRow(10), true},
		{"one deeper by turns", deepRow(11), false},
		{"MaxDeep of NdRecs", recsRow(10), true},
		{"one deeper of NdRecs", recsRow(11), false},
		{"MaxDeep of NdMsgs", msgsRow(10), true},
		{"one deeper of NdMsgs", msgsRow(11), false},
		{"an NdVar within MaxDeep", rowOf(nodes(recNode("x")), msgsRow(9)[:18], nodes(varNode("x"))), true},
		{"MaxRoles", rowOf(oneSaid("a", "b", "l"), oneSaid("c", "d", "l"), nodes(endNode())), true},
		{"MaxRoles, each with each", rowOf(oneSaid("a", "b", "l"), oneSaid("c", "d", "l"), oneSaid("d", "a", "l"), oneSaid("b", "c", "l"), nodes(endNode())), true},
		{"one role more, as Peer", rowOf(oneSaid("a", "b", "l"), oneSaid("c", "d", "l"), oneSaid("a", "e", "l"), nodes(endNode())), false},
		{"one role more, as Name", rowOf(oneSaid("a", "b", "l"), oneSaid("c", "d", "l"), oneSaid("e", "a", "l"), nodes(endNode())), false},
		{"labels and NdRecs are no roles", rowOf(nodes(recNode("e")), oneSaid("a", "b", "f"), oneSaid("c", "d", "g"), nodes(varNode("e"))), true},
		{"no case", nodes(msgNode("a", "b", 0)), false},
		{"no case, and an end", nodes(msgNode("a", "b", 0), endNode()), false},
		{"one case", casesRow(1, "l"), true},
		{"four cases", casesRow(4, "l", "m", "n", "o"), true},
		{"five cases", casesRow(5, "l", "m", "n", "o", "p"), false},
		{"fewer cases than none", casesRow(-1, "l"), false},
		{"as many cases as may be counted", casesRow(1<<63-1, "l"), false},
		{"one case too few", casesRow(3, "l", "m"), false},
		{"one case too many", casesRow(2, "l", "m", "n"), false},
	} {
		holdsPlan(t, c.what, c.row, c.right)
	}
}

func TestPromise3Rules(t *testing.T) {
	end := nodes(endNode())
	said := oneSaid("a", "b", "l")
	for _, c := range []struct {
		what  string
		row   []impl.Node
		right bool
	}{
		{"an NdVar alone", nodes(varNode("x")), false},
		{"an NdVar in no NdRec", rowOf(said, nodes(varNode("x"))), false},
		{"an NdVar of another NdRec", rowOf(nodes(recNode("y")), said, nodes(varNode("x"))), false},
		{"an NdVar behind its NdRec", rowOf(nodes(msgNode("a", "b", 2), caseNode("l", 0), recNode("x")), oneSaid("a", "b", "k"), nodes(varNode("x"), caseNode("m", 0), varNode("x"))), false},
		{"an NdVar ahead of its NdRec", nodes(msgNode("a", "b", 2), caseNode("l", 0), varNode("x"), caseNode("m", 0), recNode("x"), endNode()), false},
		{"an NdVar in its NdRec", rowOf(nodes(recNode("x")), said, nodes(varNode("x"))), true},
		{"an NdVar in its NdRec at once", nodes(recNode("x"), varNode("x")), false},
		{"an NdVar in its NdRec, another NdRec between", nodes(recNode("x"), recNode("y"), varNode("x")), false},
		{"an NdVar in its NdRec, a message ahead of both", rowOf(said, nodes(recNode("x"), varNode("x"))), false},
		{"an NdVar in its NdRec, a message beside", rowOf(nodes(msgNode("a", "b", 2), caseNode("l", 0), endNode(), caseNode("m", 0), recNode("x"), varNode("x"))), false},
		{"an NdVar of the outer NdRec", rowOf(nodes(recNode("x")), said, nodes(recNode("y"), varNode("x"))), true},
		{"an NdVar of the outer NdRec, both ahead", rowOf(nodes(recNode("x"), recNode("y")), said, nodes(varNode("x"))), true},
		{"an NdVar of the inner NdRec", rowOf(nodes(recNode("x")), said, nodes(recNode("y"), varNode("y"))), false},
		{"an NdRec within one of its own Name", nodes(recNode("x"), recNode("x"), endNode()), false},
		{"an NdRec within one of its own Name, further out", rowOf(nodes(recNode("x"), recNode("y")), said, nodes(recNode("x"), endNode())), false},
		{"NdRecs of one Name side by side", nodes(msgNode("a", "b", 2), caseNode("l", 0), recNode("x"), endNode(), caseNode("m", 0), recNode("x"), endNode()), true},
		{"an NdRec of the Name of a role around", rowOf(said, nodes(recNode("a"), endNode())), true},
		{"two cases of one label", casesRow(2, "l", "l"), false},
		{"the first and the last case of one label", casesRow(4, "l", "m", "n", "l"), false},
		{"two cases of one label and two Sorts", nodes(msgNode("a", "b", 2), caseNode("l", 1), endNode(), caseNode("l", 2), endNode()), false},
		{"one label in two messages", rowOf(said, said, end), true},
		{"Name and Peer alike", rowOf(oneSaid("a", "a", "l"), end), false},
		{"a label like a role", rowOf(oneSaid("a", "b", "a"), end), true},
		{"nothing", nil, false},
		{"two ends", nodes(endNode(), endNode()), false},
		{"an NdRec with nothing in it", nodes(recNode("x")), false},
		{"an NdRec with two plans in it", nodes(recNode("x"), endNode(), endNode()), false},
		{"a message with a plan in the place of a case", nodes(msgNode("a", "b", 1), endNode()), false},
		{"a case with nothing in it", nodes(msgNode("a", "b", 1), caseNode("l", 0)), false},
		{"a case with a case in it", nodes(msgNode("a", "b", 1), caseNode("l", 0), caseNode("m", 0), endNode()), false},
		{"a case alone", nodes(caseNode("l", 0), endNode()), false},
		{"a Sort below 0", nodes(msgNode("a", "b", 1), caseNode("l", -1), endNode()), false},
		{"a Sort of 2", nodes(msgNode("a", "b", 1), caseNode("l", 2), endNode()), true},
		{"a Sort of 3", nodes(msgNode("a", "b", 1), caseNode("l", 3), endNode()), false},
		{"an Op below 0", nodes(impl.Node{Op: -1}), false},
		{"an Op above all", nodes(impl.Node{Op: 7}), false},
		{"an NdSend", nodes(impl.Node{Op: impl.NdSend, Peer: "b", Many: 1}, caseNode("l", 0), endNode()), false},
		{"an NdRecv", nodes(impl.Node{Op: impl.NdRecv, Peer: "b", Many: 1}, caseNode("l", 0), endNode()), false},
		{"an NdSend with a Name", nodes(impl.Node{Op: impl.NdSend, Name: "a", Peer: "b", Many: 1}, caseNode("l", 0), endNode()), false},
	} {
		holdsPlan(t, c.what, c.row, c.right)
	}
}

// Every name of a plan, in each of its places: in an NdRec and its NdVar, as Name, as Peer, and as a label.
func TestPromise3Names(t *testing.T) {
	for _, c := range []struct {
		name  string
		right bool
	}{
		{"a0", true}, {"a_", true}, {"ends", true}, {"recs", true}, {"rec_", true}, {"en", true}, {"re", true},
		{strings.Repeat("n", 20), true}, {strings.Repeat("n", 21), false},
		{"end", false}, {"rec", false}, {"", false}, {"_a", false}, {"0", false}, {"A", false}, {"a b", false}, {"a>b", false},
		{"a\x80", false}, {"\u00e4", false}, {"a\u0430", false}, {"\u0161", false}, {strings.Repeat("n", impl.MaxBytes+1), false},
	} {
		holdsPlan(t, "NdRec", nodes(recNode(c.name), endNode()), c.right)
		holdsPlan(t, "NdVar", rowOf(nodes(recNode(c.name)), oneSaid("p", "q", "l"), nodes(varNode(c.name))), c.right)
		holdsPlan(t, "Name", rowOf(oneSaid(c.name, "q", "l"), nodes(endNode())), c.right)
		holdsPlan(t, "Peer", rowOf(oneSaid("p", c.name, "l"), nodes(endNode())), c.right)
		holdsPlan(t, "label", rowOf(oneSaid("p", "q", c.name), nodes(endNode())), c.right)
		if c.right || len(c.name) > 100 {
			continue
		}
		refusesText(t, "rec "+c.name+".end", impl.ErrSyntax)
		refusesText(t, "rec "+c.name+".p>q{l(none)."+c.name+"}", impl.ErrSyntax)
		refusesText(t, c.name+">q{l(none).end}", impl.ErrSyntax)
		refusesText(t, "p>"+c.name+"{l(none).end}", impl.ErrSyntax)
		refusesText(t, "p>q{"+c.name+"(none).end}", impl.ErrSyntax)
	}
}

func TestPromise3FieldsNotNamed(t *testing.T) {
	l := nodes(recNode("x"), msgNode("a", "b", 2), caseNode("l", impl.SoInt), varNode("x"), caseNode("m", impl.SoNone), endNode())
	holdsPlan(t, "as it is", l, true)
	named := map[int64]string{impl.NdEnd: "", impl.NdVar: "Name", impl.NdRec: "Name", impl.NdMsg: "Name Peer Many", impl.NdCase: "Name Sort"}
	for at, n := range l {
		for _, field := range []string{"Name", "Peer", "Many", "Sort"} {
			if strings.Contains(named[n.Op], field) {
				continue
			}
			for _, value := range []int64{1, 2, -1} {
				turned := slices.Clone(l)
				switch field {
				case "Name":
					turned[at].Name = "a"
				case "Peer":
					turned[at].Peer = "b"
				case "Many":
					turned[at].Many = value
				case "Sort":
					turned[at].Sort = value
				}
				holdsPlan(t, field+" of "+strconv.Itoa(at), turned, false)
			}
		}
	}
}

// The longest names in MaxNodes Nodes are far from MaxBytes: no right plan lacks its text.
func TestPromise3LongestText(t *testing.T) {
	long := func(last string) string { return strings.Repeat("n", 19) + last }
	l := nodes(endNode())
	for len(l)+3 <= impl.MaxNodes && len(l)/2 < impl.MaxDeep {
		l = rowOf(oneSaid(long("a"), long("b"), long("l")), l)
	}
	holdsPlan(t, "long and deep", l, true)
	wide := wideRow(40)
	for i := range wide {
		if wide[i].Name != "" {
			wide[i].Name = strings.Repeat("n", 20-len(wide[i].Name)) + wide[i].Name
		}
		if wide[i].Peer != "" {
			wide[i].Peer = long("b")
		}
	}
	holdsPlan(t, "long and wide", wide, true)
	if got := len(impl.PlanText(wide)); got < 800 || got > impl.MaxNodes*45 {
		t.Errorf("the long and wide one has %d bytes", got)
	}
}

func TestPromise3WrongTexts(t *testing.T) {
	for _, text := range []string{
		"", " ", "\n", "x", "rec", "rec ", "rec x", "rec x.", "rec x.x", "rec .end", "rec x end", "rec  x.end", "recx.end", "rec\tx.end",
		" end", "end ", "end.", "end,", "end}", "end\n", "end end", "endend", "End", "END", "en", "rec x. end", "rec x .end", "rec x.end.",
		"a", "a>", "a>b", "a>b{", "a>b{}", "a>b{l", "a>b{l(", "a>b{l()", "a>b{l().end}", "a>b{l(none", "a>b{l(none)", "a>b{l(none).", "a>b{l(none).end",
		"a>b{l(none)end}", "a>b{l.end}", "a>b{(none).end}", "a>b{l(none).}", "a>b{l(none).end,}", "a>b{,l(none).end}", "a>b{l(none).end,,m(none).end}",
		"a>b{l(none).end}}", "a>b{l(none).end}end", "a>b{l(none).end}.", "a>b{l(none).end},", "a>b{l(none).end;m(none).end}", "a>b{l(none).end m(none).end}",
		"a > b{l(none).end}", "a>b {l(none).end}", "a>b{ l(none).end}", "a>b{l (none).end}", "a>b{l( none).end}", "a>b{l(none) .end}", "a>b{l(none). end}",
		"a>b{l(none).end, m(none).end}", "a>b{l(None).end}", "a>b{l(bool).end}", "a>b{l(0).end}", "a>b{l(inte).end}", "a>b{l(int,int).end}", "a>b{l(int)(int).end}",
		"a>>b{l(none).end}", ">b{l(none).end}", "a>{l(none).end}", "a<b{l(none).end}", "a>b>c{l(none).end}", "a!b{l(none).end}", "b!{l(none).end}", "b?{l(none).end}",
		"a>b[l(none).end]", "a>b(l(none).end)", "rec x.a>b{l(none).y}", "a>a{l(int).end}", "a>b{l(int).end,l(int).end}", "rec x.rec x.end",
		"a>b{k(none).end,l(none).end,m(none).end,n(none).end,o(none).end}", "a>b{l(none).c>d{l(none).e>a{l(none).end}}}",
		"end\x00", "\x00end", "en\xc3\xa4d", "\xffend", "end\xff", "\xef\xbb\xbfend", "a>b{l\xff(none).end}", "\uff52ec x.end", "rec \u0178.end",
	} {
		refusesText(t, text, impl.ErrSyntax)
	}
}

// No text of a plan begins another one, and none has room for one byte more or less but within a name.
func TestPromise3TextsNearby(t *testing.T) {
	texts := []string{"end", "rec x.end", "rec x.a>b{hi(int).x,no(none).end}", "a>b{l(none).rec y.b>a{m(text).y,n(int).end},k(none).c>d{l(none).end}}"}
	for _, text := range texts {
		for cut := range len(text) {
			refusesText(t, text[:cut], impl.ErrSyntax)
		}
		for at := range len(text) + 1 {
			refusesText(t, text[:at]+" "+text[at:], impl.ErrSyntax)
			for _, b := range []byte(".,>{}()!?\n\x00\x80\xffAx0_ ") {
				nearbyIsExact(t, text[:at]+string([]byte{b})+text[at:])
				if at < len(text) {
					nearbyIsExact(t, text[:at]+string([]byte{b})+text[at+1:])
				}
			}
			if at < len(text) {
				nearbyIsExact(t, text[:at]+text[at+1:])
			}
		}
		for b := range 256 {
			refusesText(t, text+string([]byte{byte(b)}), impl.ErrSyntax)
		}
		refusesText(t, text+text, impl.ErrSyntax)
		refusesText(t, text+","+text, impl.ErrSyntax)
	}
}

// nearbyIsExact: what is read of any text is right, and has that very text.
func nearbyIsExact(t *testing.T, text string) {
	t.Helper()
	got := impl.PlanRead(text)
	switch got.Code {
	case impl.OK:
		if !ownRight(got.Plan) || drawn(got.Plan) != text {
			t.Errorf("PlanRead(%q): got %v", text, got)
		}
	case impl.ErrSyntax:
		if len(got.Plan) != 0 {
			t.Errorf("PlanRead(%q): got %v", text, got)
		}
	default:
		t.Errorf("PlanRead(%q): got the code %d", text, got.Code)
	}
}

func TestPromise3Roles(t *testing.T) {
	l := impl.PlanRead("rec x.b>a_{l(int).aa>a{m(int).x,end1(none).end}}").Plan
	if got, want := impl.RolesOf(l), []string{"a", "a_", "aa", "b"}; !slices.Equal(got, want) {
		t.Errorf("RolesOf: got %q, want %q", got, want)
	}
	for _, role := range []string{"a", "a_", "aa", "b"} {
		if !impl.TalksIn(l, role) {
			t.Errorf("TalksIn of %q: got false", role)
		}
	}
	for _, role := range []string{"", "x", "l", "m", "end1", "c", "A", "a ", "aaa", "end", "rec", strings.Repeat("a", impl.MaxBytes), strings.Repeat("a", impl.MaxBytes+1)} {
		if impl.TalksIn(l, role) {
			t.Errorf("TalksIn of %.30q: got true", role)
		}
	}
	quiet := nodes(recNode("x"), endNode())
	if impl.TalksIn(quiet, "x") || impl.TalksIn(quiet, "") || len(impl.RolesOf(quiet)) != 0 || impl.NodesOf(quiet) != 0 {
		t.Error("somebody talks where nothing is said")
	}
	last := nodes(msgNode("a", "z9", 1), caseNode("l", 0), msgNode("z_", "a", 1), caseNode("l", 0), endNode())
	if got, want := impl.RolesOf(last), []string{"a", "z9", "z_"}; !slices.Equal(got, want) {
		t.Errorf("RolesOf: got %q, want %q", got, want)
	}
}

func TestPromise3Sizes(t *testing.T) {
	for _, size := range []int{impl.MaxList - 1, impl.MaxList, impl.MaxList + 1, 100000} {
		holdsPlan(t, "ends", slices.Repeat(nodes(endNode()), size), false)
		holdsPlan(t, "NdRecs", slices.Repeat(nodes(recNode("x")), size), false)
		holdsPlan(t, "a right plan ahead", rowOf(oneSaid("a", "b", "l"), slices.Repeat(nodes(endNode()), size)), false)
	}
	for _, fill := range []string{" ", "n", "rec x.", "a>b{l(none).", "\xff", "}"} {
		over := strings.Repeat(fill, impl.MaxBytes+1)
		refusesText(t, over[:impl.MaxBytes], impl.ErrSyntax)
		refusesText(t, over[:impl.MaxBytes+1], impl.ErrSize)
	}
	refusesText(t, "end"+strings.Repeat(" ", impl.MaxBytes-2), impl.ErrSize)
}

func TestPromise3NewMemory(t *testing.T) {
	text := "rec name.from>peer{label(int).name,other(none).end}"
	l := impl.PlanRead(text).Plan
	for _, n := range l {
		if sameMemory(n.Name, text) || sameMemory(n.Peer, text) {
			t.Error("what is read shares memory with its text")
		}
	}
	for _, role := range impl.RolesOf(l) {
		for _, n := range l {
			if sameMemory(role, n.Name) || sameMemory(role, n.Peer) {
				t.Error("a role shares memory with the plan")
			}
		}
	}
	first, second := impl.RolesOf(l), impl.RolesOf(l)
	first[0] = "zz"
	if second[0] != "from" || impl.RolesOf(l)[0] != "from" {
		t.Error("two answers share their memory")
	}
	again := impl.PlanRead(text).Plan
	again[0].Name = "zz"
	if l[0].Name != "name" || impl.PlanRead(text).Plan[0].Name != "name" {
		t.Error("two plans share their memory")
	}
}
