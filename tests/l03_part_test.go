package tests

import (
	"math/rand"
	"slices"
	"strconv"
	"strings"
	"testing"

	"loop.example/g00574/impl"
)

func sendNode(to string, many int64) impl.Node {
	return impl.Node{Op: impl.NdSend, Peer: to, Many: many}
}

func recvNode(from string, many int64) impl.Node {
	return impl.Node{Op: impl.NdRecv, Peer: from, Many: many}
}

// turnedToPart puts an NdSend or, by turns, an NdRecv in the place of each NdMsg.
func turnedToPart(l []impl.Node) []impl.Node {
	part := slices.Clone(l)
	count := 0
	for i, n := range part {
		if n.Op != impl.NdMsg {
			continue
		}
		part[i] = sendNode(n.Peer, n.Many)
		if count%2 == 1 {
			part[i] = recvNode(n.Name, n.Many)
		}
		count++
	}
	return part
}

func partFieldsRight(n impl.Node) bool {
	if n.Op == impl.NdMsg {
		return false
	}
	if n.Op != impl.NdSend && n.Op != impl.NdRecv {
		return fieldsRight(n)
	}
	return n.Name == "" && impl.NameRight(n.Peer) && n.Peer != "end" && n.Peer != "rec" && n.Sort == 0
}

// ownPartRight asks each rule of chapter 3 by itself, as chapter 4 has it for parts.
func ownPartRight(l []impl.Node) bool {
	return rulesHold(l, partFieldsRight)
}

// holdsPart asks the three calls on rows and texts of a row of which it is known whether it is right.
func holdsPart(t *testing.T, what string, l []impl.Node, right bool) {
	t.Helper()
	before := slices.Clone(l)
	if got := impl.PartRight(l); got != right {
		t.Errorf("%s: PartRight(%v): got %v", what, l, got)
		return
	}
	text := ""
	if right {
		text = drawn(l)
		read := impl.PartRead(text)
		if read.Code != impl.OK || !slices.Equal(read.Part, l) {
			t.Errorf("%s: PartRead(%q): got %v", what, text, read)
		}
	}
	if got := impl.PartText(l); got != text {
		t.Errorf("%s: PartText: got %q, want %q", what, got, text)
	}
	if !slices.Equal(l, before) {
		t.Errorf("%s: the row has been changed: %v", what, l)
	}
}

func refusesPartText(t *testing.T, text string, code int64) {
	t.Helper()
	got := impl.PartRead(text)
	if got.Code != code || len(got.Part) != 0 {
		t.Errorf("PartRead(%.80q): got %v, want the code %d", text, got, code)
	}
}

func TestPromise4KnownTexts(t *testing.T) {
	for _, c := range []struct {
		text string
		want []impl.Node
	}{
		{"end", nodes(endNode())},
		{"rec x.end", nodes(recNode("x"), endNode())},
		{"b!{l(none).end}", nodes(sendNode("b", 1), caseNode("l", impl.SoNone), endNode())},
		{"b?{l(int).end}", nodes(recvNode("b", 1), caseNode("l", impl.SoInt), endNode())},
		{"rec x.b!{hi(int).x,no(text).end}", nodes(recNode("x"), sendNode("b", 2), caseNode("hi", impl.SoInt), varNode("x"), caseNode("no", impl.SoText), endNode())},
		{"b?{l(none).b!{l(none).end},m(none).c?{l(none).rec x.end}}", nodes(recvNode("b", 2), caseNode("l", impl.SoNone), sendNode("b", 1), caseNode("l", impl.SoNone), endNode(), caseNode("m", impl.SoNone), recvNode("c", 1), caseNode("l", impl.SoNone), recNode("x"), endNode())},
		{"rec a.a!{a(none).a}", nodes(recNode("a"), sendNode("a", 1), caseNode("a", impl.SoNone), varNode("a"))},
		{"rec recs.endx?{end0(none).recs}", nodes(recNode("recs"), recvNode("endx", 1), caseNode("end0", impl.SoNone), varNode("recs"))},
	} {
		got := impl.PartRead(c.text)
		if got.Code != impl.OK || !slices.Equal(got.Part, c.want) {
			t.Errorf("PartRead(%q): got %v", c.text, got)
		}
		if text := impl.PartText(c.want); text != c.text {
			t.Errorf("PartText: got %q, want %q", text, c.text)
		}
		holdsPart(t, c.text, c.want, true)
	}
}

// All rows of few Nodes: just those are right of which the rules, asked one by one, say so.
func TestPromise4EveryShortRow(t *testing.T) {
	kinds := nodes(endNode(), varNode("x"), recNode("x"), recNode("y"), sendNode("a", 1), recvNode("b", 2), msgNode("a", "b", 1), caseNode("l", impl.SoInt), caseNode("m", impl.SoNone))
	right, all := 0, 0
	var grow func(l []impl.Node)
	grow = func(l []impl.Node) {
		all++
		want := ownPartRight(l)
		if got := impl.PartRight(l); got != want {
			t.Errorf("PartRight(%v): got %v", l, got)
		}
		if want {
			right++
			holdsPart(t, "short", l, true)
		}
		if len(l) == 6 {
			return
		}
		for _, n := range kinds {
			grow(append(slices.Clone(l), n))
		}
	}
	grow(nil)
	if right < 50 || all < 100*right {
		t.Errorf("of %d rows only %d are right", all, right)
	}
}

func TestPromise4ManyPartsComeBack(t *testing.T) {
	for _, l := range manyPlans(3000) {
		holdsPart(t, "grown", turnedToPart(l), true)
	}
}

func TestPromise4TurnedRows(t *testing.T) {
	r := rand.New(rand.NewSource(7))
	words := []string{"", "a", "b", "c_1", "d", "e", "x", "y", "l", "end", "rec", "A", "9"}
	wrong := 0
	for _, l := range manyPlans(3000) {
		l = turnedToPart(l)
		for range 12 {
			turned := slices.Clone(l)
			at := r.Intn(len(turned))
			switch r.Intn(8) {
			case 0:
				turned[at].Op = int64(r.Intn(9) - 1)
			case 1:
				turned[at].Name = words[r.Intn(len(words))]
			case 2:
				turned[at].Peer = words[r.Intn(len(words))]
			case 3:
				turned[at].Many = int64(r.Intn(7) - 1)
			case 4:
				turned[at].Sort = int64(r.Intn(5) - 1)
			case 5:
				turned = slices.Delete(turned, at, at+1)
			case 6:
				turned = slices.Insert(turned, at, turned[r.Intn(len(turned))])
			case 7:
				turned[at] = l[r.Intn(len(l))]
			}
			right := ownPartRight(turned)
			if !right {
				wrong++
			}
			holdsPart(t, "turned", turned, right)
		}
	}
	if wrong < 10000 {
		t.Errorf("only %d turned rows are wrong", wrong)
	}
}

// peersRow: one NdSend or NdRecv in the other, to and from these.
func peersRow(peers ...string) []impl.Node {
	var l []impl.Node
	for i, peer := range peers {
		n := sendNode(peer, 1)
		if i%2 == 1 {
			n = recvNode(peer, 1)
		}
		l = append(l, n, caseNode("l", impl.SoNone))
	}
	return append(l, endNode())
}

func TestPromise4Limits(t *testing.T) {
	for _, c := range []struct {
		what  string
		row   []impl.Node
		right bool
	}{
		{"MaxNodes less 1", turnedToPart(wideRow(39)), true},
		{"MaxNodes", turnedToPart(wideRow(40)), true},
		{"MaxNodes and one", turnedToPart(wideRow(41)), false},
		{"MaxDeep by turns", turnedToPart(deepRow(10)), true},
		{"one deeper by turns", turnedToPart(deepRow(11)), false},
		{"MaxDeep of NdRecs", recsRow(10), true},
		{"one deeper of NdRecs", recsRow(11), false},
		{"MaxDeep of NdSends and NdRecvs", turnedToPart(msgsRow(10)), true},
		{"one deeper of NdSends and NdRecvs", turnedToPart(msgsRow(11)), false},
		{"an NdVar within MaxDeep", rowOf(nodes(recNode("x")), turnedToPart(msgsRow(9)[:18]), nodes(varNode("x"))), true},
		{"MaxRoles Peers", peersRow("a", "b", "c", "d"), true},
		{"MaxRoles Peers, again and again", peersRow("a", "b", "c", "d", "d", "c", "b", "a"), true},
		{"one Peer more", peersRow("a", "b", "c", "d", "e"), false},
		{"one Peer more, behind one there already", peersRow("a", "b", "c", "d", "a", "e"), false},
		{"labels and NdRecs are no Peers", rowOf(nodes(recNode("e"), sendNode("a", 1), caseNode("f", 0)), peersRow("b", "c", "d")), true},
		{"no case", nodes(sendNode("b", 0)), false},
		{"no case, and an end", nodes(recvNode("b", 0), endNode()), false},
		{"one case", turnedToPart(casesRow(1, "l")), true},
		{"four cases", turnedToPart(casesRow(4, "l", "m", "n", "o")), true},
		{"five cases", turnedToPart(casesRow(5, "l", "m", "n", "o", "p")), false},
		{"fewer cases than none", turnedToPart(casesRow(-1, "l")), false},
		{"as many cases as may be counted", turnedToPart(casesRow(1<<63-1, "l")), false},
		{"one case too few", turnedToPart(casesRow(3, "l", "m")), false},
		{"one case too many", turnedToPart(casesRow(2, "l", "m", "n")), false},
	} {
		holdsPart(t, c.what, c.row, c.right)
	}
}

func TestPromise4Rules(t *testing.T) {
	end := nodes(endNode())
	sent := nodes(sendNode("b", 1), caseNode("l", impl.SoNone))
	heard := nodes(recvNode("b", 1), caseNode("l", impl.SoNone))
	x, y := nodes(recNode("x")), nodes(recNode("y"))
	goX, goY := nodes(varNode("x")), nodes(varNode("y"))
	for _, c := range []struct {
		what  string
		row   []impl.Node
		right bool
	}{
		{"nothing", nil, false},
		{"two ends", rowOf(end, end), false},
		{"an NdVar alone", goX, false},
		{"an NdVar in no NdRec", rowOf(sent, goX), false},
		{"an NdVar of another NdRec", rowOf(y, heard, goX), false},
		{"an NdVar in its NdRec, an NdSend between", rowOf(x, sent, goX), true},
		{"an NdVar in its NdRec, an NdRecv between", rowOf(x, heard, goX), true},
		{"an NdVar in its NdRec at once", rowOf(x, goX), false},
		{"an NdVar in its NdRec, another NdRec between", rowOf(x, y, goX), false},
		{"an NdVar in its NdRec, an NdSend ahead of both", rowOf(sent, x, goX), false},
		{"an NdVar of the outer NdRec", rowOf(x, heard, y, goX), true},
		{"an NdVar of the inner NdRec at once", rowOf(x, heard, y, goY), false},
		{"an NdRec within one of its own Name", rowOf(x, sent, x, end), false},
		{"NdRecs of one Name side by side", rowOf(nodes(sendNode("b", 2), caseNode("l", 0)), x, end, nodes(caseNode("m", 0)), x, end), true},
		{"an NdRec of the Name of a Peer", rowOf(sent, nodes(recNode("b")), end), true},
		{"two cases of one label, sent", turnedToPart(casesRow(2, "l", "l")), false},
		{"two cases of one label, heard", nodes(recvNode("b", 2), caseNode("l", 1), endNode(), caseNode("l", 2), endNode()), false},
		{"one label in two", rowOf(sent, heard, end), true},
		{"a label like a Peer", nodes(sendNode("b", 1), caseNode("b", 0), endNode()), true},
		{"a Name at an NdSend", nodes(impl.Node{Op: impl.NdSend, Name: "a", Peer: "b", Many: 1}, caseNode("l", 0), endNode()), false},
		{"a Name at an NdRecv", nodes(impl.Node{Op: impl.NdRecv, Name: "a", Peer: "b", Many: 1}, caseNode("l", 0), endNode()), false},
		{"a Name within", rowOf(sent, nodes(impl.Node{Op: impl.NdRecv, Name: "b", Peer: "b", Many: 1}, caseNode("l", 0)), end), false},
		{"no Peer at an NdSend", nodes(sendNode("", 1), caseNode("l", 0), endNode()), false},
		{"no Peer at an NdRecv", nodes(recvNode("", 1), caseNode("l", 0), endNode()), false},
		{"a Sort at an NdSend", nodes(impl.Node{Op: impl.NdSend, Peer: "b", Many: 1, Sort: 1}, caseNode("l", 0), endNode()), false},
		{"a Sort at an NdRecv", nodes(impl.Node{Op: impl.NdRecv, Peer: "b", Many: 1, Sort: 1}, caseNode("l", 0), endNode()), false},
		{"a Sort below 0", nodes(sendNode("b", 1), caseNode("l", -1), endNode()), false},
		{"a Sort of 3", nodes(recvNode("b", 1), caseNode("l", 3), endNode()), false},
		{"a case alone", nodes(caseNode("l", 0), endNode()), false},
		{"a case with nothing in it", heard, false},
		{"an end in the place of a case", nodes(sendNode("b", 1), endNode()), false},
		{"an NdRec with nothing in it", x, false},
		{"an Op below 0", nodes(impl.Node{Op: -1}), false},
		{"an Op above all", nodes(impl.Node{Op: 7}), false},
	} {
		holdsPart(t, c.what, c.row, c.right)
	}
}

// What may stand in a part may not stand in a plan, and the other way round, at the beginning and within.
func TestPromise4PlansAndPartsAreNotMixed(t *testing.T) {
	end := nodes(endNode())
	said := oneSaid("a", "b", "l")
	sent := nodes(sendNode("b", 1), caseNode("l", impl.SoNone))
	heard := nodes(recvNode("a", 1), caseNode("l", impl.SoNone))
	for _, row := range [][]impl.Node{
		rowOf(said, sent, end), rowOf(said, heard, end), rowOf(sent, said, end), rowOf(heard, said, end),
		rowOf(nodes(recNode("x")), said, said, sent, nodes(varNode("x"))), rowOf(nodes(recNode("x")), heard, sent, said, nodes(varNode("x"))),
	} {
		holdsPlan(t, "mixed", row, false)
		holdsPart(t, "mixed", row, false)
		refusesText(t, drawn(row), impl.ErrSyntax)
		refusesPartText(t, drawn(row), impl.ErrSyntax)
	}
	for _, l := range manyPlans(500) {
		said := slices.ContainsFunc(l, isTalk)
		holdsPart(t, "a plan", l, !said)
		holdsPlan(t, "a part", turnedToPart(l), !said)
		if said {
			refusesPartText(t, drawn(l), impl.ErrSyntax)
			refusesText(t, drawn(turnedToPart(l)), impl.ErrSyntax)
		}
	}
}

func TestPromise4Names(t *testing.T) {
	for _, c := range []struct {
		name  string
		right bool
	}{
		{"a0", true}, {"a_", true}, {"ends", true}, {"recs", true}, {strings.Repeat("n", 20), true}, {strings.Repeat("n", 21), false},
		{"end", false}, {"rec", false}, {"", false}, {"_a", false}, {"0", false}, {"A", false}, {"a b", false}, {"a!", false}, {"a?", false}, {"!", false}, {"a>b", false},
		{"a\x80", false}, {"ä", false}, {strings.Repeat("n", impl.MaxBytes+1), false},
	} {
		holdsPart(t, "NdRec", nodes(recNode(c.name), endNode()), c.right)
		holdsPart(t, "NdVar", nodes(recNode(c.name), sendNode("p", 1), caseNode("l", 0), varNode(c.name)), c.right)
		holdsPart(t, "to", nodes(sendNode(c.name, 1), caseNode("l", 0), endNode()), c.right)
		holdsPart(t, "from", nodes(recvNode(c.name, 1), caseNode("l", 0), endNode()), c.right)
		holdsPart(t, "label", nodes(recvNode("p", 1), caseNode(c.name, 0), endNode()), c.right)
		if c.right || len(c.name) > 100 {
			continue
		}
		refusesPartText(t, "rec "+c.name+".end", impl.ErrSyntax)
		refusesPartText(t, "rec "+c.name+".p!{l(none)."+c.name+"}", impl.ErrSyntax)
		refusesPartText(t, c.name+"!{l(none).end}", impl.ErrSyntax)
		refusesPartText(t, c.name+"?{l(none).end}", impl.ErrSyntax)
		refusesPartText(t, "p?{"+c.name+"(none).end}", impl.ErrSyntax)
	}
}

func TestPromise4WrongTexts(t *testing.T) {
	for _, text := range []string{
		"", " ", "\n", "x", "rec", "rec ", "rec x", "rec x.", "rec x.x", "rec .end", "rec  x.end", "recx.end", " end", "end ", "end.", "end}", "endend", "End", "en",
		"b", "b!", "b?", "b!{", "b!{}", "b?{}", "b!{l", "b!{l(", "b!{l()", "b!{l().end}", "b!{l(none", "b!{l(none)", "b!{l(none).", "b!{l(none).end", "!{l(none).end}", "?{l(none).end}",
		"b!{l(none)end}", "b?{l.end}", "b?{(none).end}", "b?{l(none).}", "b!{l(none).end,}", "b!{,l(none).end}", "b!{l(none).end,,m(none).end}",
		"b!{l(none).end}}", "b!{l(none).end}end", "b!{l(none).end}.", "b!{l(none).end;m(none).end}", "b !{l(none).end}", "b! {l(none).end}", "b!{ l(none).end}", "b!{l(none). end}",
		"b!!{l(none).end}", "b??{l(none).end}", "b!?{l(none).end}", "b?!{l(none).end}", "!b{l(none).end}", "?b{l(none).end}", "a!b{l(none).end}", "a?b{l(none).end}", "a>b!{l(none).end}", "a!>b{l(none).end}",
		"a>b{l(none).end}", "b.{l(none).end}", "b{l(none).end}", "b,{l(none).end}", "b!(l(none).end)", "b![l(none).end]", "b!{l(None).end}", "b!{l(bool).end}", "b!{l(int)(int).end}",
		"rec x.b!{l(none).y}", "rec x.b!{l(none).x!}", "rec x.b!{l(none).x?}", "rec x.b!{l(none).x>c}", "rec x.c>d{l(none).x>b}", "b!{l(int).end,l(int).end}", "b?{l(int).end,l(none).end}", "rec x.rec x.end",
		"b!{k(none).end,l(none).end,m(none).end,n(none).end,o(none).end}", "a!{l(none).b?{l(none).c!{l(none).d?{l(none).e!{l(none).end}}}}}",
		"end\x00", "\xffend", "b\xff!{l(none).end}", "b!\xff{l(none).end}", "b\u203d{l(none).end}", "b\uff01{l(none).end}",
	} {
		refusesPartText(t, text, impl.ErrSyntax)
	}
}

// partNearbyIsExact: what is read of any text is right, and has that very text.
func partNearbyIsExact(t *testing.T, text string) {
	t.Helper()
	got := impl.PartRead(text)
	if got.Code == impl.OK && (!ownPartRight(got.Part) || drawn(got.Part) != text) {
		t.Errorf("PartRead(%q): got %v", text, got)
	}
	if got.Code != impl.OK && (got.Code != impl.ErrSyntax || len(got.Part) != 0) {
		t.Errorf("PartRead(%q): got %v", text, got)
	}
}

func TestPromise4TextsNearby(t *testing.T) {
	for _, text := range []string{"end", "rec x.end", "rec x.b!{hi(int).x,no(none).end}", "b?{l(none).rec y.c!{m(text).y,n(int).end},k(none).d?{l(none).end}}"} {
		for cut := range len(text) {
			refusesPartText(t, text[:cut], impl.ErrSyntax)
		}
		for at := range len(text) + 1 {
			refusesPartText(t, text[:at]+" "+text[at:], impl.ErrSyntax)
			for _, b := range []byte(".,>{}()!?\n\x00\x80\xffAx0_ ") {
				partNearbyIsExact(t, text[:at]+string([]byte{b})+text[at:])
				if at < len(text) {
					partNearbyIsExact(t, text[:at]+string([]byte{b})+text[at+1:])
				}
			}
			if at < len(text) {
				partNearbyIsExact(t, text[:at]+text[at+1:])
			}
		}
		for b := range 256 {
			refusesPartText(t, text+string([]byte{byte(b)}), impl.ErrSyntax)
		}
		refusesPartText(t, text+text, impl.ErrSyntax)
		refusesPartText(t, text+","+text, impl.ErrSyntax)
	}
}

func TestPromise4Sizes(t *testing.T) {
	for _, size := range []int{impl.MaxList - 1, impl.MaxList, impl.MaxList + 1, 100000} {
		code := int64(impl.ErrForm)
		if size > impl.MaxList {
			code = impl.ErrSize
		}
		for _, n := range nodes(endNode(), recNode("x"), sendNode("a", 1), msgNode("a", "b", 1)) {
			row := slices.Repeat(nodes(n), size)
			holdsPart(t, "too long", row, false)
			refusesPart(t, row, "a", code)
			refusesPart(t, row, "", code)
		}
	}
	for _, fill := range []string{" ", "n", "rec x.", "b!{l(none).", "b?{l(none).", "\xff", "}"} {
		over := strings.Repeat(fill, impl.MaxBytes+1)
		refusesPartText(t, over[:impl.MaxBytes], impl.ErrSyntax)
		refusesPartText(t, over[:impl.MaxBytes+1], impl.ErrSize)
	}
	refusesPartText(t, "end"+strings.Repeat(" ", impl.MaxBytes-2), impl.ErrSize)
	right := nodes(endNode())
	refusesPart(t, right, strings.Repeat("a", impl.MaxBytes), impl.ErrForm)
	refusesPart(t, right, strings.Repeat("a", impl.MaxBytes+1), impl.ErrSize)
	refusesPart(t, nil, strings.Repeat("A", impl.MaxBytes+1), impl.ErrSize)
	refusesPart(t, slices.Repeat(right, impl.MaxList+1), strings.Repeat("a", impl.MaxBytes+1), impl.ErrSize)
}

// refusesPart asks PartOf, and that a plan which is not right is not sound either.
func refusesPart(t *testing.T, plan []impl.Node, role string, code int64) {
	t.Helper()
	got := impl.PartOf(plan, role)
	if got.Code != code || len(got.Part) != 0 {
		t.Errorf("PartOf(%.120q, %.30q): got %v, want the code %d", impl.PlanText(plan), role, got, code)
	}
	if !impl.PlanRight(plan) && impl.Sound(plan) {
		t.Errorf("a plan that is not right is Sound: %v", plan[:min(len(plan), 10)])
	}
}

// wantPart asks of a plan's text the text of the role's part; the empty text says that there is none.
func wantPart(t *testing.T, plan string, role string, part string) {
	t.Helper()
	read := impl.PlanRead(plan)
	if read.Code != impl.OK {
		t.Errorf("PlanRead(%q): got the code %d", plan, read.Code)
		return
	}
	got := impl.PartOf(read.Plan, role)
	if part == "" {
		refusesPart(t, read.Plan, role, impl.ErrClash)
		if impl.TalksIn(read.Plan, role) && impl.Sound(read.Plan) {
			t.Errorf("%q is Sound, but %q has no part", plan, role)
		}
		return
	}
	if got.Code != impl.OK || impl.PartText(got.Part) != part {
		t.Errorf("PartOf(%q, %q): got %v, %q, want %q", plan, role, got, drawn(got.Part), part)
	}
}

func wantSound(t *testing.T, plan string, sound bool) {
	t.Helper()
	read := impl.PlanRead(plan)
	if got := impl.Sound(read.Plan); read.Code != impl.OK || got != sound {
		t.Errorf("Sound(%q): got %v", plan, got)
	}
}

func TestPromise4KnownParts(t *testing.T) {
	desk := "rec x.a>b{ask(int).b>c{ask(int).c>b{say(text).b>a{say(text).x}}},stop(none).b>c{stop(none).end}}"
	for _, c := range []struct{ plan, role, part string }{
		{"end", "a", "end"},
		{"rec x.end", "a", "end"},
		{"a>b{l(none).end}", "a", "b!{l(none).end}"},
		{"a>b{l(none).end}", "b", "a?{l(none).end}"},
		{"a>b{l(none).end}", "c", "end"},
		{"a>b{l(none).end}", "l", "end"},
		{"rec x.a>b{hi(int).x,no(text).end}", "a", "rec x.b!{hi(int).x,no(text).end}"},
		{"rec x.a>b{hi(int).x,no(text).end}", "b", "rec x.a?{hi(int).x,no(text).end}"},
		{"rec x.a>b{hi(int).x,no(text).end}", "c", "end"},
		{"rec x.a>b{hi(int).x,no(text).end}", "x", "end"},
		{desk, "a", "rec x.b!{ask(int).b?{say(text).x},stop(none).end}"},
		{desk, "b", "rec x.a?{ask(int).c!{ask(int).c?{say(text).a!{say(text).x}}},stop(none).c!{stop(none).end}}"},
		{desk, "c", "rec x.b?{ask(int).b!{say(text).x},stop(none).end}"},
		{desk, "d", "end"},
		{"a>b{l(none).c>d{m(int).b>a{n(text).d>c{o(none).end}}}}", "a", "b!{l(none).b?{n(text).end}}"},
		{"a>b{l(none).c>d{m(int).b>a{n(text).d>c{o(none).end}}}}", "b", "a?{l(none).a!{n(text).end}}"},
		{"a>b{l(none).c>d{m(int).b>a{n(text).d>c{o(none).end}}}}", "c", "d!{m(int).d?{o(none).end}}"},
		{"a>b{l(none).c>d{m(int).b>a{n(text).d>c{o(none).end}}}}", "d", "c?{m(int).c!{o(none).end}}"},
		{"a>b{z(none).end,l(int).end,m(text).end,k(none).end}", "b", "a?{z(none).end,l(int).end,m(text).end,k(none).end}"},
	} {
		wantPart(t, c.plan, c.role, c.part)
		wantSound(t, c.plan, true)
	}
}

func TestPromise4RolesOfNoMessage(t *testing.T) {
	plan := impl.PlanRead("rec x.a>b{hi(int).x,no(none).b>a{l(none).end}}").Plan
	// `end` and `rec` are names, though no plan can have them as roles.
	for _, role := range []string{"c", "x", "hi", "aa", "a_", "end", "rec", strings.Repeat("n", 20)} {
		got := impl.PartOf(plan, role)
		if got.Code != impl.OK || !slices.Equal(got.Part, nodes(endNode())) {
			t.Errorf("PartOf of %q: got %v", role, got)
		}
	}
	for _, role := range []string{"", "A", "_", "0a", "a ", " a", "a>b", "a!", "a\n", "a\x80", "ä", "\xff", strings.Repeat("n", 21)} {
		refusesPart(t, plan, role, impl.ErrForm)
		refusesPart(t, nil, role, impl.ErrForm)
	}
	// That a role is no name comes ahead of parts that clash.
	refusesPart(t, impl.PlanRead("a>b{l(none).b>c{x(none).end},m(none).end}").Plan, "A", impl.ErrForm)
}

func TestPromise4WrongPlans(t *testing.T) {
	for _, plan := range [][]impl.Node{
		nil, {}, nodes(varNode("x")), nodes(endNode(), endNode()), nodes(recNode("x"), varNode("x")), wideRow(41), deepRow(11), recsRow(11),
		casesRow(2, "l", "l"), casesRow(5, "k", "l", "m", "n", "o"), nodes(msgNode("a", "a", 1), caseNode("l", 0), endNode()),
		nodes(sendNode("b", 1), caseNode("l", 0), endNode()), nodes(recvNode("b", 1), caseNode("l", 0), endNode()),
		rowOf(oneSaid("a", "b", "l"), oneSaid("c", "d", "l"), oneSaid("a", "e", "l"), nodes(endNode())),
	} {
		for _, role := range []string{"a", "b", "c", "", "A"} {
			refusesPart(t, plan, role, impl.ErrForm)
		}
		if impl.Sound(plan) {
			t.Errorf("Sound(%v): got true", plan)
		}
	}
}

func TestPromise4Recs(t *testing.T) {
	for _, c := range []struct{ what, plan, role, part string }{
		{"each NdVar of it", "rec x.a>b{l(none).x,m(none).end}", "c", "end"},
		{"each NdVar of it, or of one within", "rec x.a>b{l(none).rec y.a>b{m(none).x,n(none).y}}", "c", "end"},
		{"no NdVar at all", "a>b{l(none).rec x.a>b{m(none).end}}", "c", "end"},
		{"an NdRec by itself", "c>a{l(none).rec x.end}", "c", "a!{l(none).end}"},
		{"within one in which the role is", "rec x.c>a{l(none).rec y.a>b{m(none).y},n(none).x}", "c", "rec x.a!{l(none).end,n(none).x}"},
		{"an NdVar of one around", "rec x.c>a{l(none).rec y.a>b{m(none).x}}", "c", "rec x.a!{l(none).rec y.x}"},
		{"NdVars of one around, the same", "rec x.c>a{l(none).rec y.a>b{m(none).x,n(none).x}}", "c", "rec x.a!{l(none).rec y.x}"},
		{"an NdVar of one around, through two", "rec x.a>c{l(none).rec y.rec z.a>b{m(none).x}}", "c", "rec x.a?{l(none).rec y.rec z.x}"},
		{"an NdVar of it, and one of one around", "rec x.c>a{l(none).rec y.a>b{m(none).x,n(none).y}}", "c", ""},
		{"an end, and an NdVar of one around", "rec x.c>a{l(none).rec y.a>b{m(none).x,n(none).end}}", "c", ""},
		{"within it one that ends, beside an NdVar of one around", "rec x.c>a{l(none).rec y.a>b{m(none).rec z.a>b{o(none).z},n(none).x}}", "c", ""},
		{"within it one that may not end, and ends", "rec x.c>a{l(none).rec y.a>b{m(none).rec z.b>a{o(none).z,p(none).y}},q(none).x}", "c", "rec x.a!{l(none).end,q(none).x}"},
		{"within it one that does not end, and the NdVar of one between", "rec x.c>a{l(none).rec y.a>b{m(none).rec z.b>a{o(none).x}}}", "c", "rec x.a!{l(none).rec y.rec z.x}"},
		{"NdVars that clash within what ends", "c>a{l(none).rec x.a>b{m(none).x,n(none).end}}", "c", "a!{l(none).end}"},
		{"two NdVars that clash", "rec x.c>a{k(none).rec y.c>a{l(none).a>b{m(none).x,n(none).y}}}", "c", ""},
		{"the role is in it, without an NdVar", "rec x.a>b{l(none).c>a{m(none).end}}", "c", "rec x.a!{m(none).end}"},
		{"the role is in it, behind others", "rec x.a>b{l(none).b>a{m(none).a>c{n(none).x}}}", "c", "rec x.a?{n(none).x}"},
		{"the role is in one case of it alone", "rec x.a>b{l(none).x,m(none).a>c{n(none).x}}", "c", ""},
		{"NdRecs of one Name side by side", "c>a{l(none).rec x.a>b{m(none).x},n(none).rec x.c>a{m(none).x}}", "c", "a!{l(none).end,n(none).rec x.a!{m(none).x}}"},
		{"an NdRec of the Name of the role", "rec c.a>b{l(none).a>c{m(none).c}}", "c", "rec c.a?{m(none).c}"},
		{"NdRecs of the role and of nobody", "rec x.rec y.a>c{l(none).x,m(none).y,n(none).rec z.a>b{o(none).z}}", "c", "rec x.rec y.a?{l(none).x,m(none).y,n(none).end}"},
	} {
		t.Run(c.what, func(t *testing.T) {
			wantPart(t, c.plan, c.role, c.part)
		})
	}
}

func TestPromise4Merged(t *testing.T) {
	for _, c := range []struct{ what, plan, role, part string }{
		{"two ends", "a>b{l(none).end,m(none).end}", "c", "end"},
		{"two NdSends, the same", "a>b{l(none).c>a{x(int).end},m(none).c>a{x(int).end}}", "c", "a!{x(int).end}"},
		{"two NdRecs, the same", "a>b{l(none).rec x.c>a{x(int).x},m(none).rec x.c>a{x(int).x}}", "c", "rec x.a!{x(int).x}"},
		{"two NdRecvs, the same", "a>b{l(none).b>c{x(int).end},m(none).b>c{x(int).end}}", "c", "b?{x(int).end}"},
		{"the same behind other messages", "a>b{l(none).b>c{x(int).end},m(none).a>b{l(none).b>c{x(int).end}}}", "c", "b?{x(int).end}"},
		{"two NdVars, the same", "rec x.c>a{l(none).a>b{m(none).x,n(none).x}}", "c", "rec x.a!{l(none).x}"},
		{"other labels", "a>b{l(none).b>c{x(int).end},m(none).b>c{y(text).end}}", "c", "b?{x(int).end,y(text).end}"},
		{"other labels, the greater first", "a>b{l(none).b>c{y(text).end},m(none).b>c{x(int).end}}", "c", "b?{y(text).end,x(int).end}"},
		{"some of both", "a>b{l(none).b>c{x(int).end,y(none).end},m(none).b>c{z(none).end,x(int).end}}", "c", "b?{x(int).end,y(none).end,z(none).end}"},
		{"the same labels, turned round", "a>b{l(none).b>c{x(int).end,y(none).end},m(none).b>c{y(none).end,x(int).end}}", "c", "b?{x(int).end,y(none).end}"},
		{"four in all, of three", "a>b{l(none).b>c{w(none).end},m(none).b>c{x(none).end,y(none).end},n(none).b>c{z(none).end}}", "c", "b?{w(none).end,x(none).end,y(none).end,z(none).end}"},
		{"four in all, some of both", "a>b{l(none).b>c{w(none).end,x(none).end,y(none).end},m(none).b>c{y(none).end,w(none).end,z(none).end,x(none).end}}", "c", "b?{w(none).end,x(none).end,y(none).end,z(none).end}"},
		{"five in all", "a>b{l(none).b>c{v(none).end,w(none).end,x(none).end},m(none).b>c{y(none).end,z(none).end}}", "c", ""},
		{"five in all, of three", "a>b{l(none).b>c{v(none).end,w(none).end},m(none).b>c{x(none).end,y(none).end},n(none).b>c{z(none).end}}", "c", ""},
		{"five in all, of one beside four", "a>b{l(none).b>c{v(none).end},m(none).b>c{w(none).end,x(none).end,y(none).end,z(none).end}}", "c", ""},
		{"one label of two Sorts", "a>b{l(none).b>c{x(int).end},m(none).b>c{x(text).end}}", "c", ""},
		{"one label of two Sorts, further back", "a>b{l(none).b>c{w(none).end,x(int).end},m(none).b>c{y(none).end,x(none).end}}", "c", ""},
		{"in a label of both, merged in turn", "a>b{l(none).b>c{x(int).b>c{p(none).end}},m(none).b>c{x(int).b>c{q(none).end}}}", "c", "b?{x(int).b?{p(none).end,q(none).end}}"},
		{"in a label of both, merged in turn, beside others", "a>b{l(none).b>c{w(none).end,x(int).a>c{p(none).end}},m(none).b>c{x(int).a>c{q(none).end},y(none).end}}", "c", "b?{w(none).end,x(int).a?{p(none).end,q(none).end},y(none).end}"},
		{"in a label of both, not to be merged", "a>b{l(none).b>c{x(int).b>c{p(none).end}},m(none).b>c{x(int).end}}", "c", ""},
		{"in a label of both, from two Peers", "a>b{l(none).b>c{x(int).b>c{p(none).end}},m(none).b>c{x(int).a>c{p(none).end}}}", "c", ""},
		{"in a label of both, five in all", "a>b{l(none).b>c{x(int).b>c{p(none).end,q(none).end,r(none).end}},m(none).b>c{x(int).b>c{s(none).end,t(none).end}}}", "c", ""},
		{"in a label of both, three deep", "a>b{l(none).b>c{x(int).b>c{p(none).b>c{u(none).end}}},m(none).b>c{x(int).b>c{p(none).b>c{v(none).end}}}}", "c", "b?{x(int).b?{p(none).b?{u(none).end,v(none).end}}}"},
		{"in another label, never merged", "a>b{l(none).b>c{x(int).end},m(none).b>c{y(int).c>b{p(none).end}}}", "c", "b?{x(int).end,y(int).b!{p(none).end}}"},
		{"NdVars in other labels", "rec x.a>b{l(none).b>c{go(int).x},m(none).b>c{no(none).end}}", "c", "rec x.b?{go(int).x,no(none).end}"},
		{"an NdVar and an end in one label", "rec x.a>b{l(none).b>c{go(int).x},m(none).b>c{go(int).end}}", "c", ""},
		{"merged within merged", "a>b{l(none).a>b{k(none).b>c{w(none).end},o(none).b>c{x(none).end}},m(none).b>c{y(none).end}}", "c", "b?{w(none).end,x(none).end,y(none).end}"},
		{"an NdSend and an NdRecv", "a>b{l(none).c>b{x(none).end},m(none).b>c{x(none).end}}", "c", ""},
		{"an NdRecv and an NdSend", "a>b{l(none).b>c{x(none).end},m(none).c>b{x(none).end}}", "c", ""},
		{"two NdSends of other labels", "a>b{l(none).c>b{x(none).end},m(none).c>b{y(none).end}}", "c", ""},
		{"two NdSends, turned round", "a>b{l(none).c>b{x(none).end,y(none).end},m(none).c>b{y(none).end,x(none).end}}", "c", ""},
		{"two NdSends of other Sorts", "a>b{l(none).c>b{x(none).end},m(none).c>b{x(int).end}}", "c", ""},
		{"two NdSends to two Peers", "a>b{l(none).c>a{x(none).end},m(none).c>b{x(none).end}}", "c", ""},
		{"two NdSends with NdRecvs in them that could be", "a>b{l(none).c>b{x(none).b>c{p(none).end}},m(none).c>b{x(none).b>c{q(none).end}}}", "c", ""},
		{"NdRecvs from two Peers", "a>b{l(none).a>c{x(none).end},m(none).b>c{y(none).end}}", "c", ""},
		{"NdRecvs from two Peers, of one label", "a>b{l(none).a>c{x(none).end},m(none).b>c{x(none).end}}", "c", ""},
		{"an NdEnd and an NdRecv", "a>b{l(none).end,m(none).b>c{x(none).end}}", "c", ""},
		{"an NdRecv and an NdEnd", "a>b{l(none).b>c{x(none).end},m(none).end}", "c", ""},
		{"an NdEnd and an NdSend", "a>b{l(none).end,m(none).c>a{x(none).end}}", "c", ""},
		{"an NdEnd and an NdRec", "a>b{l(none).end,m(none).rec x.a>c{x(none).x}}", "c", ""},
		{"an NdEnd and an NdRec that is none", "a>b{l(none).end,m(none).rec x.a>b{x(none).x}}", "c", "end"},
		{"NdRecs of two Names", "a>b{l(none).rec x.a>c{x(none).x},m(none).rec y.a>c{x(none).y}}", "c", ""},
		{"NdRecs with NdRecvs in them that could be", "a>b{l(none).rec x.a>c{p(none).x},m(none).rec x.a>c{q(none).x}}", "c", ""},
		{"an NdRec and the NdRecv in it", "a>b{l(none).rec x.a>c{p(none).end},m(none).a>c{p(none).end}}", "c", ""},
		{"the third one alone", "a>b{l(none).end,m(none).end,n(none).a>c{p(none).end}}", "c", ""},
		{"the last one of four", "a>b{k(none).a>c{p(none).end},l(none).a>c{p(none).end},m(none).a>c{q(none).end},n(none).a>c{p(int).end}}", "c", ""},
		{"a clash within another's case", "a>c{l(none).a>b{m(none).end,n(none).b>c{p(none).end}}}", "c", ""},
		{"a clash in the last case", "c>a{l(none).end,m(none).a>b{m(none).end,n(none).b>c{p(none).end}}}", "c", ""},
		{"a clash in an NdRec", "rec x.c>a{m(none).a>b{m(none).end,n(none).x}}", "c", ""},
	} {
		t.Run(c.what, func(t *testing.T) {
			wantPart(t, c.plan, c.role, c.part)
		})
	}
}

func TestPromise4Sound(t *testing.T) {
	for _, plan := range []string{
		"end", "rec x.end", "a>b{l(none).end}", "rec x.a>b{l(none).x}", "a>b{go(int).b>c{go(int).end},no(none).b>c{no(none).end}}",
		"a>b{l(none).c>d{m(none).end}}", "a>b{l(none).end,m(none).rec x.a>b{x(none).x}}",
	} {
		wantSound(t, plan, true)
	}
	for _, plan := range []string{
		"a>b{l(none).b>c{x(none).end},m(none).end}", "b>c{l(none).c>a{x(none).end},m(none).end}", "a>c{l(none).a>b{x(none).end},m(none).end}",
		"a>b{l(none).c>d{x(none).end},m(none).end}", "rec x.a>b{l(none).x,m(none).c>a{n(none).x}}",
		"rec x.c>a{l(none).rec y.a>b{m(none).x,n(none).y}}",
	} {
		wantSound(t, plan, false)
	}
}

// aheadOf is how many Nodes the plan has with which l begins: each Node fills one place and opens as many as are in it.
func aheadOf(l []impl.Node) int {
	open := int64(1)
	for i, n := range l {
		open--
		switch {
		case n.Op == impl.NdRec || n.Op == impl.NdCase:
			open++
		case isTalk(n):
			open += n.Many
		}
		if open == 0 {
			return i + 1
		}
	}
	return len(l)
}

// casesOf cuts what is in a talk into its cases.
func casesOf(l []impl.Node) [][]impl.Node {
	var cases [][]impl.Node
	for at := 1; at < len(l); {
		size := aheadOf(l[at:])
		cases = append(cases, l[at:at+size])
		at += size
	}
	return cases
}

// leadsOut: is there an NdVar in the row whose NdRec is not?
func leadsOut(l []impl.Node) bool {
	parents, _ := parentsOf(l)
	for at, n := range l {
		if n.Op != impl.NdVar {
			continue
		}
		i := parents[at]
		for i >= 0 && l[i] != recNode(n.Name) {
			i = parents[i]
		}
		if i < 0 {
			return true
		}
	}
	return false
}

// ownPart is the part of the role by the words of chapter 4, row by row.
func ownPart(l []impl.Node, role string) ([]impl.Node, bool) {
	switch l[0].Op {
	case impl.NdRec:
		if !slices.Contains(ownRoles(l), role) && !leadsOut(l) {
			return nodes(endNode()), true
		}
		inner, ok := ownPart(l[1:], role)
		return rowOf(l[:1], inner), ok
	case impl.NdMsg:
		return ownTalk(l, role)
	}
	return l, true
}

func ownTalk(l []impl.Node, role string) ([]impl.Node, bool) {
	var cases [][]impl.Node
	for _, c := range casesOf(l) {
		inner, ok := ownPart(c[1:], role)
		if !ok {
			return nil, false
		}
		cases = append(cases, rowOf(c[:1], inner))
	}
	if l[0].Name == role {
		return rowOf(nodes(sendNode(l[0].Peer, l[0].Many)), rowOf(cases...)), true
	}
	if l[0].Peer == role {
		return rowOf(nodes(recvNode(l[0].Name, l[0].Many)), rowOf(cases...)), true
	}
	all := cases[0][1:]
	for _, c := range cases[1:] {
		merged, ok := ownMerge(all, c[1:])
		if !ok {
			return nil, false
		}
		all = merged
	}
	return all, true
}

func ownMerge(a []impl.Node, b []impl.Node) ([]impl.Node, bool) {
	if drawn(a) == drawn(b) {
		return a, true
	}
	if a[0].Op != impl.NdRecv || b[0].Op != impl.NdRecv || a[0].Peer != b[0].Peer {
		return nil, false
	}
	var cases [][]impl.Node
	seconds := map[string][]impl.Node{}
	for _, c := range casesOf(b) {
		seconds[c[0].Name] = c
	}
	for _, c := range casesOf(a) {
		if second, both := seconds[c[0].Name]; both {
			inner, ok := ownMerge(c[1:], second[1:])
			if !ok || c[0] != second[0] {
				return nil, false
			}
			c = rowOf(c[:1], inner)
			delete(seconds, c[0].Name)
		}
		cases = append(cases, c)
	}
	for _, c := range casesOf(b) {
		if _, left := seconds[c[0].Name]; left {
			cases = append(cases, c)
		}
	}
	return rowOf(nodes(recvNode(a[0].Peer, int64(len(cases)))), rowOf(cases...)), len(cases) <= 4
}

// holdsPromise4 asks of a right plan the parts of its roles, and of one that is none; it tells how many there are, and how many there are not.
func holdsPromise4(t *testing.T, plan []impl.Node) (int, int) {
	t.Helper()
	before := slices.Clone(plan)
	roles := ownRoles(plan)
	parts, clashes := 0, 0
	for _, role := range append(slices.Clone(roles), "nobody") {
		want, ok := ownPart(plan, role)
		got := impl.PartOf(plan, role)
		if !ok {
			refusesPart(t, plan, role, impl.ErrClash)
			if role != "nobody" {
				clashes++
			}
			continue
		}
		parts++
		if got.Code != impl.OK || !slices.Equal(got.Part, want) {
			t.Errorf("PartOf(%q, %q): got %v, want %v", drawn(plan), role, got, want)
			continue
		}
		if !ownPartRight(got.Part) {
			t.Errorf("PartOf(%q, %q): %v is not right", drawn(plan), role, got)
		}
		holdsPart(t, "a part", got.Part, true)
		others := slices.DeleteFunc(slices.Clone(roles), func(r string) bool { return r == role })
		for _, n := range got.Part {
			if isTalk(n) && !slices.Contains(others, n.Peer) {
				t.Errorf("PartOf(%q, %q): speaks of %q", drawn(plan), role, n.Peer)
			}
		}
	}
	if got := impl.Sound(plan); got != (clashes == 0) {
		t.Errorf("Sound(%q): got %v, but %d roles have no part", drawn(plan), got, clashes)
	}
	if !slices.Equal(plan, before) {
		t.Errorf("the plan has been changed: %v", plan)
	}
	return parts, clashes
}

func TestPromise4PartsOfManyPlans(t *testing.T) {
	parts, clashes := 0, 0
	for _, plan := range manyPlans(4000) {
		p, c := holdsPromise4(t, plan)
		parts, clashes = parts+p, clashes+c
	}
	if parts < 5000 || clashes < 500 {
		t.Errorf("only %d parts, and %d clashes", parts, clashes)
	}
}

// growTold adds a plan that is much alike in all of its cases, so that many of its parts can be merged.
func growTold(r *rand.Rand, l []impl.Node, left int, vars []string) []impl.Node {
	if left == 0 {
		if len(vars) > 0 && r.Intn(3) > 0 {
			return append(l, varNode(vars[r.Intn(len(vars))]))
		}
		return append(l, endNode())
	}
	if r.Intn(9) == 0 && len(vars) < 2 {
		name := []string{"x", "y"}[len(vars)]
		return growTold(r, append(l, recNode(name)), left, append(slices.Clone(vars), name))
	}
	from, to := "a", []string{"b", "c", "d"}[left%3]
	if r.Intn(9) == 0 {
		from, to = to, from
	}
	many := 1 + r.Intn(2)
	l = append(l, msgNode(from, to, int64(many)))
	for _, label := range r.Perm(3)[:many] {
		sort := int64(label)
		if r.Intn(20) == 0 {
			sort = 0
		}
		l = growTold(r, append(l, caseNode([]string{"l", "m", "n"}[label], sort)), left-1, vars)
	}
	return l
}

func TestPromise4PartsOfToldPlans(t *testing.T) {
	r := rand.New(rand.NewSource(11))
	parts, clashes, merged := 0, 0, 0
	for range 8000 {
		plan := growTold(r, nil, 1+r.Intn(4), nil)
		if len(plan) > impl.MaxNodes {
			continue
		}
		if !ownRight(plan) {
			t.Fatalf("not right: %v", plan)
		}
		p, c := holdsPromise4(t, plan)
		parts, clashes = parts+p, clashes+c
		for _, role := range ownRoles(plan) {
			for _, n := range impl.PartOf(plan, role).Part {
				// No message of these plans has more than two cases: three are merged.
				if n.Many > 2 {
					merged++
				}
			}
		}
	}
	if parts < 5000 || clashes < 500 || merged < 100 {
		t.Errorf("only %d parts, %d clashes, and %d merged", parts, clashes, merged)
	}
}

// All plans of few Nodes among three: the cases of a message are merged from 9 Nodes on.
func TestPromise4PartsOfEveryShortPlan(t *testing.T) {
	plans := nodes(endNode(), varNode("x"), recNode("x"), msgNode("a", "b", 2), msgNode("a", "c", 1), msgNode("c", "b", 1))
	cases := nodes(caseNode("l", impl.SoInt), caseNode("m", impl.SoNone))
	parts, clashes := 0, 0
	// The wants are what must still come, a case or a plan, the next one last.
	var grow func(l []impl.Node, wants []string)
	grow = func(l []impl.Node, wants []string) {
		if len(wants) == 0 && ownRight(l) {
			p, c := holdsPromise4(t, l)
			parts, clashes = parts+p, clashes+c
		}
		if len(wants) == 0 || len(l)+len(wants) > 10 {
			return
		}
		next, left := wants[len(wants)-1], wants[:len(wants)-1]
		if next == "case" {
			for _, n := range cases {
				grow(append(slices.Clone(l), n), append(slices.Clone(left), "plan"))
			}
			return
		}
		for _, n := range plans {
			more := slices.Repeat([]string{"case"}, int(n.Many))
			if n.Op == impl.NdRec {
				more = []string{"plan"}
			}
			grow(append(slices.Clone(l), n), append(slices.Clone(left), more...))
		}
	}
	grow(nil, []string{"plan"})
	if parts < 5000 || clashes < 500 {
		t.Errorf("only %d parts, and %d clashes", parts, clashes)
	}
}

// The greatest plans have parts that are as great as a part may be.
func TestPromise4PartsOfGreatPlans(t *testing.T) {
	for i, plan := range [][]impl.Node{wideRow(40), deepRow(10), msgsRow(10), recsRow(10), rowOf(nodes(recNode("x")), msgsRow(9)[:18], nodes(varNode("x")))} {
		if _, clashes := holdsPromise4(t, plan); clashes > 0 {
			t.Errorf("the great plan %d has %d clashes", i, clashes)
		}
		for _, role := range ownRoles(plan) {
			part := impl.PartOf(plan, role).Part
			if slices.ContainsFunc(plan, func(n impl.Node) bool { return n.Op == impl.NdMsg }) && len(part) < len(plan)/2 {
				t.Errorf("the great plan %d: the part of %q has only %d Nodes", i, role, len(part))
			}
		}
	}
	whole := impl.PartOf(msgsRow(10), "a").Part
	if len(whole) != 21 || !impl.PartRight(whole) {
		t.Errorf("the part of the deepest plan: got %v", whole)
	}
	four := impl.PlanRead("a>b{l(none).a>c{l(none).a>d{l(none).b>c{l(none).c>d{l(none).end}}}}}").Plan
	for i, want := range []string{"b!{l(none).c!{l(none).d!{l(none).end}}}", "a?{l(none).c!{l(none).end}}", "a?{l(none).b?{l(none).d!{l(none).end}}}", "a?{l(none).c?{l(none).end}}"} {
		wantPart(t, drawn(four), []string{"a", "b", "c", "d"}[i], want)
	}
}

func TestPromise4NewMemory(t *testing.T) {
	text := "rec name.peer!{label(int).name,other(none).end}"
	l := impl.PartRead(text).Part
	for _, n := range l {
		if sameMemory(n.Name, text) || sameMemory(n.Peer, text) {
			t.Error("what is read shares memory with its text")
		}
	}
	plan := impl.PlanRead("rec name.from>peer{label(text).peer>third{back(int).name},other(none).peer>third{word(int).end}}").Plan
	before := slices.Clone(plan)
	for _, role := range []string{"from", "peer", "third", "nobody"} {
		first, second := impl.PartOf(plan, role), impl.PartOf(plan, role)
		if first.Code != impl.OK || len(first.Part) == 0 || !slices.Equal(first.Part, second.Part) {
			t.Fatalf("PartOf of %q: got %v, then %v", role, first, second)
		}
		for _, n := range first.Part {
			for _, m := range plan {
				if sameMemory(n.Name, m.Name) || sameMemory(n.Name, m.Peer) || sameMemory(n.Peer, m.Name) || sameMemory(n.Peer, m.Peer) || sameMemory(n.Peer, role) {
					t.Errorf("a part shares memory with its plan: %v", n)
				}
			}
		}
		for i := range first.Part {
			first.Part[i] = impl.Node{Op: 9, Name: strconv.Itoa(i)}
		}
		if !slices.Equal(plan, before) || !slices.Equal(second.Part, impl.PartOf(plan, role).Part) {
			t.Error("two answers share their memory, or one with the plan")
		}
	}
}
