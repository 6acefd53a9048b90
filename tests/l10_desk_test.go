package tests

import (
	"fmt"
	"math/rand"
	"regexp"
	"slices"
	"strconv"
	"strings"
	"testing"

	"loop.example/g00574/impl"
)

const maxDesk = 30

// deskLines is the chapter's table as a pattern: N, then each line, with W for any word.
var deskLines = regexp.MustCompile("^(?:" + strings.NewReplacer("W", `[^ \n]+`, "N", `(?:0|[1-9][0-9]{0,8})`).Replace(
	"plan W|plan rec(?: W)+|part W|pick W N|can|done|turn W W W|(?:play|shrink) N(?:,N)*") + ")$")

// ownDesk is a desk by the words of chapter 11, which tells by the tests' own rules for all that its lines lean on.
type ownDesk struct {
	run  impl.Run
	play impl.Play
}

func ownDeskOf(plan []impl.Node) *ownDesk {
	roles, machines, _ := ownMachines(plan)
	return &ownDesk{run: ownNew(plan).Run, play: playOf(plan, roles[0], machines[0])}
}

func ownDeskFault(text string) impl.DeskOut {
	if len(text) > 8000 {
		return impl.DeskOut{Code: impl.ErrSize}
	}
	for i, line := range ownLines(text) {
		body, ended := strings.CutSuffix(line, "\n")
		if i >= 30 || !ended || !deskLines.MatchString(body) {
			return impl.DeskOut{Line: int64(i), Code: impl.ErrSyntax}
		}
	}
	return impl.DeskOut{}
}

func ownDeskRun(text string) impl.DeskOut {
	out := ownDeskFault(text)
	if out.Code != impl.OK {
		return out
	}
	d := ownDeskOf(impl.DeskPlan())
	for _, line := range ownLines(text) {
		out.Text += d.tell(strings.TrimSuffix(line, "\n")) + "\n"
	}
	return out
}

// ownLines keep their line feeds; the last one may lack it.
func ownLines(text string) []string {
	lines := strings.SplitAfter(text, "\n")
	if lines[len(lines)-1] == "" {
		lines = lines[:len(lines)-1]
	}
	return lines
}

func (d *ownDesk) tell(line string) string {
	words := strings.Split(line, " ")
	switch words[0] {
	case "plan":
		return d.tellPlan(line[len("plan "):])
	case "part":
		if !regexp.MustCompile("^[a-z][a-z0-9_]{0,19}$").MatchString(words[1]) {
			return "error 1"
		}
		part, ok := ownPart(d.run.Plan, words[1])
		return map[bool]string{true: drawn(part), false: "error 11"}[ok]
	case "pick":
		out := ownPick(d.run, words[1], ownNumbers(words[2])[0])
		if out.Code != impl.OK {
			return fmt.Sprint("error ", out.Code)
		}
		d.run = out.Run
		act := out.Events[0].Act
		return fmt.Sprint(map[int64]string{impl.StSend: "send ", impl.StRecv: "recv "}[act.Kind], act.Peer, " ", act.Label)
	case "can":
		return ownList(ownCan(d.run))
	case "done":
		return map[bool]string{true: "yes", false: "no"}[ownDone(d.run)]
	case "turn":
		return d.tellTurn(words[1], words[2], words[3])
	case "play":
		out := ownPlay(d.play, ownNumbers(words[1]))
		if out.Code != impl.OK {
			return fmt.Sprint("error ", out.Code)
		}
		return fmt.Sprintf("%d %d %d", out.Verdict, out.At, len(out.Acts))
	}
	out, _ := ownShrink(d.play, ownNumbers(words[1]))
	if out.Code != impl.OK {
		return fmt.Sprint("error ", out.Code)
	}
	return listOf(out.Tape)
}

func (d *ownDesk) tellPlan(text string) string {
	read := impl.PlanRead(text)
	if read.Code != impl.OK {
		return "error 3"
	}
	if code := ownNew(read.Plan).Code; code != impl.OK {
		return fmt.Sprint("error ", code)
	}
	if len(ownRoles(read.Plan)) == 0 {
		return "error 6"
	}
	*d = *ownDeskOf(read.Plan)
	return "ok"
}

func (d *ownDesk) tellTurn(role string, label string, name string) string {
	roles, machines, _ := ownMachines(d.run.Plan)
	number := slices.Index(roles, role)
	if number < 0 {
		return "error 6"
	}
	table := copyOf(machines[number])
	for i, e := range table.Edges {
		if e.Label == label {
			table.Edges[i].Label = name
		}
	}
	if !ownMachineRight(table) {
		return "error 1"
	}
	d.play.Role, d.play.Table = role, table
	return "ok"
}

func ownNumbers(list string) []int64 {
	var all []int64
	for _, digits := range strings.Split(list, ",") {
		n, _ := strconv.Atoi(digits)
		all = append(all, int64(n))
	}
	return all
}

func ownList(words []string) string {
	if len(words) == 0 {
		return "-"
	}
	return strings.Join(words, ",")
}

func listOf(tape []int64) string {
	var words []string
	for _, number := range tape {
		words = append(words, strconv.FormatInt(number, 10))
	}
	return ownList(words)
}

// lined puts a line feed behind each line.
func lined(lines ...string) string {
	text := ""
	for _, line := range lines {
		text += line + "\n"
	}
	return text
}

func shownDesk(out impl.DeskOut) string {
	return fmt.Sprintf("the code %d, the line %d and %.600q", out.Code, out.Line, out.Text)
}

func wantDesk(t *testing.T, what string, text string, want impl.DeskOut) {
	t.Helper()
	if got := impl.DeskRun(text); got != want {
		t.Errorf("%s: DeskRun of %.300q: got %s, want %s", what, text, shownDesk(got), shownDesk(want))
	}
	want.Text = ""
	if got := impl.DeskFault(text); got != want {
		t.Errorf("%s: DeskFault of %.300q: got %s, want %s", what, text, shownDesk(got), shownDesk(want))
	}
}

func refusesDesk(t *testing.T, what string, line int64, text string) {
	t.Helper()
	wantDesk(t, what, text, impl.DeskOut{Line: line, Code: impl.ErrSyntax})
	if own := ownDeskFault(text); own.Line != line || own.Code != impl.ErrSyntax {
		t.Errorf("%s: the test's own rules name %+v", what, own)
	}
}

// talks asks what each line tells behind those ahead of it; both stand with an arrow between.
func talks(t *testing.T, what string, lines ...string) {
	t.Helper()
	asked, told := "", ""
	wantDesk(t, what, asked, impl.DeskOut{})
	for _, both := range lines {
		line, answer, ok := strings.Cut(both, " => ")
		if !ok {
			t.Fatalf("%s: no arrow in %q", what, both)
		}
		asked, told = asked+line+"\n", told+answer+"\n"
		wantDesk(t, what, asked, impl.DeskOut{Text: told})
		if own := ownDeskRun(asked); own.Text != told {
			t.Errorf("%s: the test's own rules tell %q, not %q", what, own.Text, told)
		}
	}
}

func TestDeskPlan(t *testing.T) {
	const text = "rec x.a>b{ask(int).b>c{ask(int).c>b{say(text).b>a{say(text).x}}},stop(none).b>c{stop(none).end}}"
	plan := impl.DeskPlan()
	if impl.PlanText(plan) != text || !slices.Equal(plan, impl.PlanRead(text).Plan) || !impl.Sound(plan) {
		t.Errorf("DeskPlan: got %v", plan)
	}
	plan[0].Name = "zz"
	if impl.PlanText(impl.DeskPlan()) != text {
		t.Error("two answers of DeskPlan share their memory")
	}
}

func TestDeskWords(t *testing.T) {
	want := []string{"can", "done", "part", "pick", "plan", "play", "shrink", "turn"}
	words := impl.DeskWords()
	if !slices.Equal(words, want) || !slices.IsSorted(words) {
		t.Errorf("DeskWords: got %q", words)
	}
	clear(words[:cap(words)])
	if again := impl.DeskWords(); !slices.Equal(again, want) {
		t.Errorf("DeskWords: got %q: two answers share their memory", again)
	}
	for _, word := range want {
		known := false
		for _, line := range []string{word, word + " a", word + " 0", word + " a 0", word + " a b c"} {
			known = known || impl.DeskFault(line+"\n") == impl.DeskOut{}
		}
		if !known {
			t.Errorf("no line begins with %q", word)
		}
	}
	if impl.MaxDesk != maxDesk {
		t.Errorf("MaxDesk is %d", impl.MaxDesk)
	}
}

func TestPromise14Beginning(t *testing.T) {
	talks(t, "the beginning",
		"can => a",
		"done => no",
		"part a => rec x.b!{ask(int).b?{say(text).x},stop(none).end}",
		"part b => rec x.a?{ask(int).c!{ask(int).c?{say(text).a!{say(text).x}}},stop(none).c!{stop(none).end}}",
		"part c => rec x.b?{ask(int).b!{say(text).x},stop(none).end}",
		"play 3,1,1,2 => 1 0 1",
		"play 0 => 0 0 1",
		"shrink 3 => error 6",
	)
}

func TestPromise14Plan(t *testing.T) {
	talks(t, "one word",
		"plan a>b{l(none).end} => ok",
		"part a => b!{l(none).end}",
		"part c => end",
		"can => a",
		"play 0,1 => 1 0 1",
	)
	talks(t, "rec and one word",
		"plan rec x.b>a{hi(int).x,no(none).end} => ok",
		"part a => rec x.b?{hi(int).x,no(none).end}",
		"can => b",
	)
	talks(t, "rec and more words",
		"plan rec x.a>b{l(none).rec y.b>a{m(int).y,n(text).x},o(none).rec z.b>c{p(none).z}} => error 11",
		"plan rec x.a>b{l(none).rec y.b>a{m(int).y,n(text).x},o(none).end} => ok",
		"part b => rec x.a?{l(none).rec y.a!{m(int).y,n(text).x},o(none).end}",
		"plan rec x.rec y.rec z.b>a{m(int).y,n(text).x,o(none).z} => ok",
		"part a => rec x.rec y.rec z.b?{m(int).y,n(text).x,o(none).z}",
	)
	talks(t, "what PlanRead refuses",
		"plan x => error 3",
		"plan rec => error 3",
		"plan END => error 3",
		"plan rec x.x => error 3",
		"plan rec x. end => error 3",
		"plan rec rec rec => error 3",
		"plan a>a{l(none).end} => error 3",
		"plan a>b{l(none).end}} => error 3",
		"plan a>b{l(NONE).end} => error 3",
		"plan a!{l(none).end} => error 3",
		"plan a>b{l(none).c>d{l(none).e>a{l(none).end}}} => error 3",
		"plan \x00\xff\t\r => error 3",
		"plan rec "+strings.Repeat("x", 21)+".end => error 3",
		"plan "+strings.Repeat("x", 5000)+" => error 3",
	)
	talks(t, "what RunNew refuses, and no roles",
		"plan "+clashText+" => error 11",
		"plan end => error 6",
		"plan rec x.end => error 6",
		"plan rec x.rec y.end => error 6",
	)
	talks(t, "the first one of the roles, not the one who talks first",
		"plan c>b{l(none).b>a{m(int).end}} => ok",
		"play 2,1,1 => 0 0 0",
		"play 2,1,1,0 => 1 0 1",
	)
}

// The table lets the text of a plan have blanks only behind a rec at its beginning.
func TestPromise14PlanOfMoreWords(t *testing.T) {
	for _, line := range []string{
		"plan", "plan ", "plan  end", "plan end ", "plan rec ", "plan rec  x.end", "plan rec x.end ", "plan rec x.rec  y.end",
		"plan a>b{l(none).rec x.b>a{m(none).x}}", "plan end end", "plan x rec", "plan Rec x.end", "plan recx y.end", " plan rec x.end",
	} {
		refusesDesk(t, "plan", 0, line+"\n")
	}
	wantDesk(t, "a plan over two lines", "plan rec\nx.end\n", impl.DeskOut{Line: 1, Code: impl.ErrSyntax})
}

// What is refused leaves the Run and the Play as they are; what is not begins both anew.
func TestPromise14BehindAPlan(t *testing.T) {
	for _, refused := range []string{"plan x => error 3", "plan rec x.x => error 3", "plan " + clashText + " => error 11", "plan end => error 6", "plan rec x.end => error 6"} {
		talks(t, "behind "+refused,
			"pick a 0 => send b ask",
			"turn c say zzz => ok",
			refused,
			"part c => rec x.b?{ask(int).b!{say(text).x},stop(none).end}",
			"can => b",
			"done => no",
			"pick a 0 => error 4",
			"pick b 0 => recv a ask",
			"play 0,1,1,2,2 => 2 4 2",
			"plan "+onceText+" => ok",
			"turn b l k => ok",
			refused,
			"part b => a?{l(none).end}",
			"play 0,1 => 0 0 0",
			"turn a k l => ok",
			"play 0,1 => 1 0 1",
		)
	}
	talks(t, "a plan that is not refused",
		"plan "+roundText+" => ok",
		"pick a 0 => send b hi",
		"pick a 1 => send b no",
		"turn a no zzz => ok",
		"play 2 => 2 0 1",
		"can => b",
		"plan "+roundText+" => ok",
		"can => a",
		"play 2 => 0 0 1",
		"pick b 0 => error 4",
		"plan "+deskText+" => ok",
		"pick a 0 => send b ask",
		"turn b hi zzz => ok",
		"plan "+onceText+" => ok",
		"play 0 => 0 0 1",
		"pick c 0 => error 6",
		"turn c say zzz => error 6",
	)
}

func TestPromise14Part(t *testing.T) {
	long := strings.Repeat("n", 20)
	talks(t, "part",
		"part a => rec x.b!{ask(int).b?{say(text).x},stop(none).end}",
		"part d => end",
		"part x => end",
		"part ask => end",
		"part end => end",
		"part rec => end",
		"part "+long+" => end",
		"part "+long+"n => error 1",
		"part A => error 1",
		"part 0 => error 1",
		"part _a => error 1",
		"part a,b => error 1",
		"part a\t => error 1",
		"part \xff => error 1",
		"part \u00e4 => error 1",
		"part - => error 1",
		"pick a 0 => send b ask",
		"turn a ask aaa => ok",
		"part a => rec x.b!{ask(int).b?{say(text).x},stop(none).end}",
		"plan "+toldText+" => ok",
		"part c => rec x.b?{more(int).x,last(none).a!{bye(text).end}}",
		"plan "+fourText+" => ok",
		"part d => c?{m(int).c!{o(none).end}}",
		"part e => end",
	)
}

func TestPromise14Pick(t *testing.T) {
	talks(t, "until it is done",
		"pick b 0 => error 4",
		"pick c 0 => error 4",
		"pick d 0 => error 6",
		"pick A 0 => error 6",
		"pick \xff 0 => error 6",
		"pick a 2 => send b ask",
		"pick a 0 => error 4",
		"pick c 0 => error 4",
		"pick b 5 => recv a ask",
		"pick b 7 => send c ask",
		"pick b 0 => error 4",
		"pick c 0 => recv b ask",
		"pick c 1 => send b say",
		"pick c 0 => error 4",
		"pick b 0 => recv c say",
		"pick b 0 => send a say",
		"pick a 3 => recv b say",
		"pick a 3 => send b stop",
		"pick a 0 => error 10",
		"pick b 0 => recv a stop",
		"pick b 0 => send c stop",
		"pick b 0 => error 10",
		"done => no",
		"pick c 0 => recv b stop",
		"done => yes",
		"pick a 0 => error 10",
		"pick b 0 => error 10",
		"pick c 0 => error 10",
		"pick d 0 => error 6",
		"can => -",
	)
	talks(t, "one who talks ahead",
		"plan "+roundText+" => ok",
		"pick a 0 => send b hi",
		"pick a 0 => send b hi",
		"pick a 0 => send b hi",
		"pick a 0 => error 9",
		"pick a 1 => error 9",
		"pick b 9 => recv a hi",
		"pick a 1 => send b no",
		"pick a 1 => error 10",
		"pick b 0 => recv a hi",
		"pick b 0 => recv a hi",
		"pick b 0 => recv a no",
		"pick b 0 => error 10",
		"done => yes",
	)
	long := strings.Repeat("n", 8000-len("pick  0\n"))
	wantDesk(t, "too long for a role", "pick "+long+" 0\n", impl.DeskOut{Text: "error 6\n"})
}

func TestPromise14Numbers(t *testing.T) {
	for digits, told := range map[string]string{
		"0": "send b ask", "1": "send b stop", "9": "send b stop", "10": "send b ask", "99": "send b stop", "100": "send b ask", "12345": "send b stop",
		"999999": "send b stop", "1000000": "send b ask", "1000001": "error 1", "9999999": "error 1", "100000000": "error 1", "999999999": "error 1",
	} {
		talks(t, "digits", "pick a "+digits+" => "+told, "can => "+map[bool]string{true: "a", false: "b"}[told == "error 1"])
		talks(t, "a wrong number ahead of no such role", "pick d "+digits+" => "+map[bool]string{true: "error 1", false: "error 6"}[told == "error 1"])
	}
	for _, digits := range []string{
		"1000000000", "9999999999", "0000000000", "12345678901234567890", "9223372036854775807", "18446744073709551616", "00", "01", "007", "000000001", "0000000001",
		"+0", "+1", "-0", "-1", "-", "+", "1-", "1+", "1_0", "0x1", "0b1", "0o1", "1e3", "1.0", ".", "1.", "a", "1a", "a1", "\u0661", "\u00b2", "1\u00a0", "\x001", "1\t", "\t1", "1\r", "\xff", "1\xff", "=1", "N", "(1)",
	} {
		refusesDesk(t, "pick", 0, "pick a "+digits+"\n")
		refusesDesk(t, "pick of nobody", 0, "pick A "+digits+"\n")
		for _, word := range []string{"play", "shrink"} {
			refusesDesk(t, word, 0, word+" "+digits+"\n")
			refusesDesk(t, word, 0, word+" "+digits+",0\n")
			refusesDesk(t, word, 0, word+" 0,"+digits+"\n")
			refusesDesk(t, word, 0, word+" 0,"+digits+",0\n")
			refusesDesk(t, word, 0, word+" "+strings.Repeat("0,", 12)+digits+"\n")
		}
	}
	for _, list := range []string{"0,", ",0", ",", "0,,0", ",,", "0,0,", ",0,0", "1,2,,3,4", "0,0,,", "0;0", "0.0", "0, 0", "0 ,0"} {
		refusesDesk(t, "pick of a list", 0, "pick a "+list+"\n")
		refusesDesk(t, "play", 0, "play "+list+"\n")
		refusesDesk(t, "shrink", 0, "shrink "+list+"\n")
	}
	refusesDesk(t, "pick of two", 0, "pick a 0,1\n")
	refusesDesk(t, "pick of many", 0, "pick a "+strings.Repeat("0,", 20)+"0\n")
}

func TestPromise14CanAndDone(t *testing.T) {
	talks(t, "two who can",
		"plan a>b{l(none).c>d{m(int).end}} => ok",
		"can => a,c",
		"done => no",
		"pick c 0 => send d m",
		"can => a,d",
		"pick a 0 => send b l",
		"can => b,d",
		"pick b 0 => recv a l",
		"can => d",
		"done => no",
		"pick d 0 => recv c m",
		"can => -",
		"done => yes",
		"can => -",
		"done => yes",
	)
	talks(t, "three who can",
		"plan "+fourText+" => ok",
		"can => a,c",
		"pick a 0 => send b l",
		"pick c 0 => send d m",
		"can => b,d",
		"pick b 0 => recv a l",
		"pick d 0 => recv c m",
		"can => b,d",
		"pick b 0 => send a n",
		"can => a,d",
		"pick a 0 => recv b n",
		"done => no",
		"pick d 0 => send c o",
		"can => c",
		"pick c 0 => recv d o",
		"can => -",
		"done => yes",
	)
}

func TestPromise14Turn(t *testing.T) {
	long := strings.Repeat("z", 20)
	talks(t, "a",
		"turn a stop zzz => ok",
		"play 3 => 2 0 1",
		"turn a ask aaa => ok",
		"play 3 => 0 0 1",
		"play 0 => 2 0 1",
		"turn a say zzz => ok",
		"play 0,1,1,2,2,1,1,0 => 0 0 1",
		"turn a stop "+long+" => ok",
		"play 3 => 2 0 1",
		"turn a stop end => ok",
		"play 3 => 2 0 1",
		"turn a stop ask_ => ok",
		"play 0 => 0 0 1",
		"turn a ask rec => ok",
		"play 0 => 2 0 1",
	)
	talks(t, "b, who hears and says the same words",
		"turn b ask aaa => ok",
		"play 0,1 => 0 0 0",
		"play 3,1,1,2 => 1 0 2",
		"turn b stop zzz => ok",
		"play 3,1,1,2 => 0 0 0",
		"play 0,1,1,2,2,1,1 => 0 0 4",
		"turn b say zzz => ok",
		"play 0,1,1,2,2,1,1 => 0 0 2",
		"plan b>a{l(none).b>c{l(none).end}} => ok",
		"turn b l k => ok",
		"play 1 => 2 0 1",
		"play 0 => 0 0 0",
	)
	talks(t, "c",
		"turn c say zzz => ok",
		"play 0,1,1,2,2 => 2 4 2",
		"turn c ask a => ok",
		"play 0,1,1,2,2 => 0 0 0",
		"turn c stop t => ok",
		"play 3,1,1,2 => 0 0 0",
		"turn c say say => ok",
		"play 3,1,1,2 => 1 0 1",
	)
	talks(t, "all Edges of the label",
		"plan rec x.a>b{l(none).a>b{l(none).a>b{m(none).x}}} => ok",
		"turn a l k => ok",
		"play 0 => 2 0 1",
		"turn a m n => ok",
		"play 0,0,0 => 2 2 3",
		"turn b l k => ok",
		"play 0,1,0,1 => 0 0 0",
	)
	talks(t, "a label that no Edge has",
		"turn a stop zzz => ok",
		"turn a nothing zzz => ok",
		"play 3,1,1,2 => 1 0 1",
		"turn a stop zzz => ok",
		"turn a STOP ZZZ => ok",
		"play 3,1,1,2 => 1 0 1",
		"turn a stop zzz => ok",
		"turn a zzz stop => ok",
		"play 3,1,1,2 => 1 0 1",
		"turn a sto \xff => ok",
		"turn a 0 0 => ok",
		"turn c zzz yyy => ok",
		"play 3,1,1,2 => 1 0 1",
	)
	talks(t, "no such role, ahead of a wrong name",
		"turn d ask aaa => error 6",
		"turn A ask aaa => error 6",
		"turn d ask ASK => error 6",
		"turn - - - => error 6",
		"turn "+strings.Repeat("a", 21)+" stop zzz => error 6",
		"turn ask ask ask => error 6",
	)
}

// Where the Machine would not be right nothing is turned, neither from what it was nor from what it was turned to.
func TestPromise14TurnedNot(t *testing.T) {
	for _, refused := range []string{
		"turn a ask stop => error 1", "turn a stop ask => error 1", "turn a ask zzz => error 1", "turn a stop aaa => error 1", "turn a ask Ask => error 1", "turn a stop 9 => error 1",
		"turn a stop " + strings.Repeat("z", 21) + " => error 1", "turn a say _ => error 1", "turn a ask - => error 1", "turn a stop zz\xff => error 1", "turn a stop z,z => error 1",
		"turn b ask stop => error 1", "turn b ask zzz => error 1", "turn b say SAY => error 1", "turn c stop ask => error 1", "turn c say say! => error 1", "turn d say zzz => error 6", "turn ab say zzz => error 6",
	} {
		talks(t, "behind "+refused,
			refused,
			"play 3,1,1,2 => 1 0 1",
			"shrink 3,1,1,2 => error 6",
			"turn c say zzz => ok",
			refused,
			"play 0,1,1,2,2 => 2 4 2",
			"turn a stop zzz => ok",
			"turn a stop yyy => ok",
			refused,
			"play 0,1,1,2,2 => 0 0 1",
			"play 3 => 2 0 1",
			"shrink 1,3 => 3",
		)
	}
}

// The Run goes by the plan, whatever the Play's Role does.
func TestPromise14TurnLeavesTheRun(t *testing.T) {
	talks(t, "the Run",
		"pick a 0 => send b ask",
		"turn b ask aaa => ok",
		"can => b",
		"pick b 0 => recv a ask",
		"turn b say zzz => ok",
		"pick b 0 => send c ask",
		"turn c say zzz => ok",
		"pick c 0 => recv b ask",
		"pick c 0 => send b say",
		"play 0,1,1,2,2 => 2 4 2",
		"pick b 0 => recv c say",
		"play 0,1,1,2,2 => 2 4 2",
		"done => no",
	)
}

func TestPromise14PlayAndShrink(t *testing.T) {
	twelve := strings.Repeat("0,", 11) + "0"
	numbers399 := strings.Repeat("399,", 11) + "399"
	talks(t, "the machine as it is",
		"play 0 => 0 0 1",
		"play 3 => 0 0 1",
		"play 99 => 0 0 1",
		"play 100 => 0 0 0",
		"play 399 => 0 0 0",
		"play 400 => error 1",
		"play 999999999 => error 1",
		"play 0,400,0 => error 1",
		"play "+twelve+" => 0 0 1",
		"play "+twelve+",0 => error 1",
		"play "+numbers399+" => 0 0 0",
		"play "+numbers399+",399 => error 1",
		"play 0,1,1,2,2,1,1,0,3,1,1,2 => 1 0 3",
		"play 0,1,1,2,2,1,1,0,3,1,1 => 0 0 3",
		"shrink 0,1,1,2,2,1,1,0,3,1,1,2 => error 6",
		"shrink 0 => error 6",
		"shrink 400 => error 1",
		"shrink "+twelve+" => error 6",
		"shrink "+twelve+",0 => error 1",
		"shrink 999999999 => error 1",
	)
	talks(t, "the machine as it was turned",
		"turn a stop zzz => ok",
		"play 3 => 2 0 1",
		"shrink 3 => 3",
		"play 1,2,3 => 2 2 1",
		"shrink 1,2,3 => 3",
		"play 0,1,1,2,2,1,1,0,3,1,1,2 => 2 8 3",
		"shrink 0,1,1,2,2,1,1,0,3,1,1,2 => 0,1,1,2,2,1,1,0,3",
		"shrink 99,100,200,399,0,1,2,3,4,5,6,7 => 3",
		"shrink 99,100,200,399,0,1,2 => 99",
		"play "+twelve+" => 0 0 1",
		"shrink "+twelve+" => error 6",
		"play "+twelve+",3 => error 1",
		"shrink 3,"+twelve+" => error 1",
		"shrink 3,400 => error 1",
		"play 3,400 => error 1",
		"play 3,999999999 => error 1",
		"shrink 999999999,3 => error 1",
		"play 0 => 0 0 1",
		"shrink 0 => error 6",
		"turn c say zzz => ok",
		"shrink 0,1,1,2,2,2 => 0,1,1,2,2",
		"turn a ask aaa => ok",
		"shrink 6,7,8 => 0",
	)
	many := strings.Repeat("3,", 399) + "3"
	for _, word := range []string{"play", "shrink"} {
		talks(t, "far too many", word+" "+many+" => error 1", word+" "+many+",3 => error 2", word+" "+many+",400,3 => error 2")
	}
	wantDesk(t, "as many as fit in", "play "+strings.Repeat("0,", 3996)+"10\n", impl.DeskOut{Text: "error 2\n"})
}

func TestPromise14LinesThatAreNone(t *testing.T) {
	for _, line := range []string{
		"", " ", "  ", "\t", "\r", "\x00", "\xff", "can ", " can", "  can", "can  ", "can\t", "can\r", "can can", "can 1", "can a", "cans", "ca", "c", "Can", "CAN", "can\x00",
		"done ", " done", "done yes", "done 0", "Done", "DONE", "don", "donee",
		"part", "part ", "part  a", "part a ", " part a", "part a b", "part  ", "Part a", "PART a", "parta", "part\ta", "part a  b",
		"pick", "pick ", "pick a", "pick a ", "pick 0", "pick  0", "pick a  0", "pick  a 0", "pick a 0 ", " pick a 0", "pick a 0 0", "pick a b 0", "pick 0 a", "Pick a 0", "PICK a 0",
		"plan", "plan ", "plan  end", "plan end end", "Plan end", "PLAN end", " plan end", "plan end ",
		"turn", "turn a", "turn a ask", "turn a ask ", "turn a  ask", "turn a ask zzz yyy", "turn a ask zzz ", " turn a ask zzz", "turn  a ask zzz", "turn a  ask zzz", "turn a ask  zzz", "Turn a ask zzz", "TURN a ask zzz",
		"play", "play ", "play  0", "play 0 ", " play 0", "play 0 0", "play a", "play -", "play a 0", "Play 0", "PLAY 0",
		"shrink", "shrink ", "shrink  0", "shrink 0 ", " shrink 0", "shrink 0 0", "shrink a", "shrink -", "Shrink 0", "SHRINK 0", "shrin 0",
		"ok", "error 3", "yes", "no", "-", "help", "0", "end", "rec x.end", "report", "role a", "picks a 0", "can,done", "can;done", "# can",
	} {
		refusesDesk(t, "alone", 0, line+"\n")
		refusesDesk(t, "behind another one", 1, "can\n"+line+"\n")
		refusesDesk(t, "ahead of another one", 0, line+"\ncan\n")
		refusesDesk(t, "the last one of 30", 29, strings.Repeat("done\n", 29)+line+"\n")
		refusesDesk(t, "one too many", 30, strings.Repeat("done\n", 30)+line+"\n")
		if line != "" {
			refusesDesk(t, "without a line feed", 0, line)
			refusesDesk(t, "without a line feed, behind another one", 1, "can\n"+line)
		}
	}
}

func TestPromise14Texts(t *testing.T) {
	wantDesk(t, "the empty text", "", impl.DeskOut{})
	for _, line := range []string{"can", "done", "part a", "part A", "pick a 0", "plan end", "plan x", "plan rec x.end", "turn a ask aaa", "play 0", "shrink 0"} {
		refusesDesk(t, "no line feed", 0, line)
		refusesDesk(t, "no line feed at the end", 1, line+"\n"+line)
		refusesDesk(t, "no line feed at the end of 30", 29, strings.Repeat(line+"\n", 29)+line)
		refusesDesk(t, "no line feed at the end of 31", 30, strings.Repeat(line+"\n", 30)+line)
		refusesDesk(t, "31 lines", 30, strings.Repeat(line+"\n", 31))
		refusesDesk(t, "32 lines", 30, strings.Repeat(line+"\n", 32))
		refusesDesk(t, "very many lines", 30, strings.Repeat(line+"\n", 400))
		refusesDesk(t, "an empty line behind 30", 30, strings.Repeat(line+"\n", 30)+"\n")
		refusesDesk(t, "an empty line at the end", 1, line+"\n\n")
		refusesDesk(t, "an empty line at the beginning", 0, "\n"+line+"\n")
		for _, count := range []int{1, 2, 29, 30} {
			text := strings.Repeat(line+"\n", count)
			wantDesk(t, "as many lines as may be", text, ownDeskRun(text))
			if told := impl.DeskRun(text).Text; strings.Count(told, "\n") != count {
				t.Errorf("%d lines tell %q", count, told)
			}
		}
	}
	refusesDesk(t, "lines with two bytes at their end", 0, "can\r\ndone\r\n")
}

func TestPromise14WhichLine(t *testing.T) {
	for _, c := range []struct {
		what string
		line int64
		text string
	}{
		{"two that are wrong", 0, "x\ny\n"},
		{"two behind a right one", 1, "can\nx\ny\n"},
		{"apart", 2, "can\ndone\nx\ncan\ny\n"},
		{"wrong ahead of no line feed", 1, "can\nx\ncan"},
		{"wrong, and no line feed", 1, "can\nx"},
		{"no line feed alone", 2, "can\ndone\ncan"},
		{"wrong ahead of one too many", 3, strings.Repeat("can\n", 3) + "x\n" + strings.Repeat("can\n", 40)},
		{"the 30th ahead of one too many", 29, strings.Repeat("can\n", 29) + "x\n" + strings.Repeat("can\n", 40)},
		{"one too many ahead of a wrong one", 30, strings.Repeat("can\n", 31) + "x\n"},
		{"one too many ahead of no line feed", 30, strings.Repeat("can\n", 35) + "can"},
		{"a code that is told is no fault", 2, "plan x\npick d 0\nx\n"},
		{"the first one is named, though a later one is right", 0, "can 1\n" + strings.Repeat("can\n", 29)},
		{"an empty line", 1, "can\n\ncan\n"},
		{"only line feeds", 0, "\n\n\n"},
	} {
		refusesDesk(t, c.what, c.line, c.text)
	}
	for line := range int64(maxDesk) {
		lines := slices.Repeat([]string{"pick a 0"}, maxDesk)
		lines[line] = "pick a"
		refusesDesk(t, "one that is wrong", line, lined(lines...))
		lines[maxDesk-1] = "pick"
		refusesDesk(t, "and the last one", line, lined(lines...))
	}
}

func TestPromise14Sizes(t *testing.T) {
	for _, c := range []struct {
		head string
		told string
	}{{"part ", "error 1"}, {"plan ", "error 3"}, {"plan rec ", "error 3"}, {"turn a stop ", "error 1"}, {"turn a ", ""}, {"turn ", ""}, {"play ", ""}, {"", ""}, {"pick a ", ""}} {
		for _, size := range []int{7999, 8000, 8001, 8002, 100000} {
			text := c.head + strings.Repeat("z", size-len(c.head)-1) + "\n"
			switch {
			case size > impl.MaxBytes:
				wantDesk(t, "too long", text, impl.DeskOut{Code: impl.ErrSize})
			case c.told == "":
				refusesDesk(t, "not too long, but wrong", 0, text)
			default:
				wantDesk(t, "not too long", text, impl.DeskOut{Text: c.told + "\n"})
			}
		}
	}
	for _, text := range []string{strings.Repeat("can\n", 2000), strings.Repeat("\n", 8000), strings.Repeat(" ", 8000), strings.Repeat("x", 8000)} {
		if len(text) != impl.MaxBytes || impl.DeskRun(text).Code != impl.ErrSyntax {
			t.Errorf("DeskRun of %d bytes: got the code %d", len(text), impl.DeskRun(text).Code)
		}
		wantDesk(t, "one byte too many", text+"\n", impl.DeskOut{Code: impl.ErrSize})
		wantDesk(t, "a byte too many at the beginning", "x"+text, impl.DeskOut{Code: impl.ErrSize})
	}
}

// What is told may be longer than what may be asked.
func TestPromise14LongAnswers(t *testing.T) {
	plan := longNames(playOf(readPlan(t, strings.Repeat("a>b{k(text).end,l(text).end,m(text).", 6)+"end"+strings.Repeat("}", 6)), "a", impl.Machine{})).Plan
	role := ownRoles(plan)[0]
	part := impl.PartText(impl.PartOf(plan, role).Part)
	text := "plan " + impl.PlanText(plan) + "\n" + strings.Repeat("part "+role+"\n", 29)
	want := "ok\n" + strings.Repeat(part+"\n", 29)
	if len(text) > impl.MaxBytes || len(want) < 2*impl.MaxBytes {
		t.Fatalf("%d bytes ask for %d", len(text), len(want))
	}
	wantDesk(t, "long answers", text, impl.DeskOut{Text: want})
}

// Nothing of what one text's lines have done is there for another text.
func TestPromise14NothingKept(t *testing.T) {
	for range 2 {
		for _, ahead := range []string{"", "pick a 0\n", "plan " + onceText + "\n", "turn a stop zzz\n", "can\nx\n", "can", strings.Repeat("x", 9000), strings.Repeat("can\n", 31)} {
			impl.DeskRun(ahead)
			impl.DeskFault(ahead)
			talks(t, "behind another text", "can => a", "part c => rec x.b?{ask(int).b!{say(text).x},stop(none).end}", "play 3,1,1,2 => 1 0 1", "pick a 0 => send b ask")
		}
	}
}

func TestDeskNewMemory(t *testing.T) {
	for _, text := range []string{"can\n", lined("plan "+strings.Clone(toldText), "part c", "pick a 0", "can"), lined("part x_1_2", "turn a stop zzzz", "shrink 0,1,1,2,2,1,1,0,3")} {
		first, second := impl.DeskRun(text), impl.DeskRun(text)
		if first != second || sameMemory(first.Text, text) || sameMemory(first.Text, second.Text) {
			t.Errorf("DeskRun of %q: got %+v and %+v, in one memory", text, first, second)
		}
	}
}

// anyName is one of the desk's roles or labels, or of another plan's, or a word that is no name.
func anyName(r *rand.Rand) string {
	names := []string{"a", "b", "c", "d", "c_1", "ask", "say", "stop", "hi", "no", "l", "m", "aaa", "zzz", "end", "rec", "A", "9", "-", "x,y", "\xff"}
	return names[r.Intn(len(names))]
}

func anyNumbers(r *rand.Rand) string {
	tape := anyTape(r)
	if r.Intn(2) == 0 {
		tape = nil
		for range r.Intn(maxTape) + 1 {
			tape = append(tape, int64(r.Intn(6)))
		}
	}
	if r.Intn(12) == 0 {
		tape = append(tape, []int64{400, 999999999, 1000000}[r.Intn(3)])
	}
	if len(tape) == 0 || r.Intn(12) == 0 {
		tape = append(tape, make([]int64, r.Intn(14)+1)...)
	}
	return listOf(tape)
}

// anyLine is one that a desk knows.
func anyLine(r *rand.Rand, plans []string) string {
	switch r.Intn(20) {
	case 0:
		return "plan " + plans[r.Intn(len(plans))]
	case 1, 2:
		return "part " + anyName(r)
	case 3, 4:
		return "can"
	case 5:
		return "done"
	case 6, 7, 8:
		label := []string{"ask", "say", "stop", "l", "m", "hi", "no"}[r.Intn(7)]
		switch r.Intn(4) {
		case 0:
			return "turn " + anyName(r) + " " + anyName(r) + " " + anyName(r)
		case 1:
			return "turn " + string("abcd"[r.Intn(4)]) + " " + label + " " + anyName(r)
		}
		return "turn " + string("abc"[r.Intn(3)]) + " " + label + " " + label + "_"
	case 9, 10:
		return "play " + anyNumbers(r)
	case 11, 12, 13:
		return "shrink " + anyNumbers(r)
	}
	return "pick " + string("abcd"[r.Intn(4)]) + " " + []string{"0", "1", "2", "3", "999999", "1000000", "1000001", "999999999"}[r.Intn(8)]
}

// fitsInLine: is it one word, or are there more behind a rec?
func fitsInLine(text string) bool {
	return !strings.Contains(text, " ") || strings.HasPrefix(text, "rec ")
}

// planTexts are those that may stand in a line, and some that are refused there.
func planTexts() []string {
	texts := []string{"x", "end", "rec", "rec x.end", "rec x.x", clashText, deskText, onceText, backText, roundText, toldText, fourText, bothText, aheadText}
	for _, plan := range soundPlans(60) {
		texts = append(texts, drawn(plan))
	}
	return slices.DeleteFunc(texts, func(text string) bool {
		return !fitsInLine(text)
	})
}

// Each line of a text tells a line, and the first lines tell the beginning of what all of them tell.
func TestPromise14ManyTexts(t *testing.T) {
	r := rand.New(rand.NewSource(14))
	plans := planTexts()
	told := map[string]int{}
	for range 1500 {
		var lines []string
		for range r.Intn(maxDesk + 1) {
			lines = append(lines, anyLine(r, plans))
		}
		text := lined(lines...)
		if len(text) > impl.MaxBytes {
			continue
		}
		want := ownDeskRun(text)
		wantDesk(t, "many", text, want)
		answers := ownLines(impl.DeskRun(text).Text)
		if len(answers) != len(lines) || want.Code != impl.OK {
			t.Fatalf("%d lines tell %d: %q", len(lines), len(answers), text)
		}
		first := r.Intn(len(lines) + 1)
		wantDesk(t, "the first lines", lined(lines[:first]...), impl.DeskOut{Text: strings.Join(answers[:first], "")})
		for i, line := range lines {
			word, answer := strings.Split(line, " ")[0], strings.Split(strings.TrimSpace(answers[i]), " ")
			if answer[0] == "error" {
				word += " " + answer[1]
			}
			told[word]++
		}
	}
	for _, word := range []string{
		"can", "done", "part", "part 1", "pick", "pick 1", "pick 4", "pick 6", "pick 10", "plan", "plan 3", "plan 6", "plan 11",
		"play", "play 1", "shrink", "shrink 1", "shrink 6", "turn", "turn 1", "turn 6",
	} {
		if told[word] < 15 {
			t.Errorf("too few of %q: %v", word, told)
		}
	}
}

// Texts one or more bytes away from those that a desk knows.
func TestPromise14TurnedTexts(t *testing.T) {
	r := rand.New(rand.NewSource(141))
	plans := planTexts()
	wrong := 0
	for range 20000 {
		var lines []string
		for range r.Intn(5) + 1 {
			lines = append(lines, anyLine(r, plans))
		}
		text := []byte(lined(lines...))
		for range r.Intn(3) + 1 {
			at, b := r.Intn(len(text)), " \n,0191aczCP-+\t\r\x00\xff"[r.Intn(18)]
			switch r.Intn(4) {
			case 0:
				text[at] = b
			case 1:
				text = slices.Delete(text, at, at+1)
			case 2:
				text = slices.Insert(text, at, b)
			case 3:
				text = slices.Insert(text, at, text[at])
			}
			if len(text) == 0 {
				text = []byte{b}
			}
		}
		want := ownDeskFault(string(text))
		if want.Code != impl.OK {
			wrong++
			wantDesk(t, "turned", string(text), want)
		} else if got := impl.DeskFault(string(text)); got != want {
			t.Errorf("turned: DeskFault of %q: got %+v", text, got)
		}
	}
	if wrong < 5000 || wrong > 19000 {
		t.Errorf("%d of them are wrong", wrong)
	}
}

// roundLines is once round, and endLines from its beginning to the end, each with what is told.
func roundLines() []string {
	return []string{
		"pick a 0 => send b ask", "pick b 0 => recv a ask", "pick b 0 => send c ask", "pick c 0 => recv b ask",
		"pick c 0 => send b say", "pick b 0 => recv c say", "pick b 0 => send a say", "pick a 0 => recv b say",
	}
}

func endLines() []string {
	return []string{"pick a 1 => send b stop", "pick b 0 => recv a stop", "pick b 0 => send c stop", "pick c 0 => recv b stop"}
}

func TestPromise15RoundAndRound(t *testing.T) {
	for rounds := range 4 {
		lines := append(slices.Repeat(roundLines(), rounds), endLines()...)
		about := fmt.Sprintf("%d rounds", rounds)
		talks(t, about, append(slices.Clone(lines), "done => yes", "can => -")...)
		for first := range lines {
			who := strings.Split(lines[first], " ")[1]
			talks(t, about+", on the way", append(slices.Clone(lines[:first]), "can => "+who, "done => no")...)
		}
	}
}

// Whoever can go on does, by any choice: nobody is refused, and it is done when nobody can.
func TestPromise15WhoeverCan(t *testing.T) {
	r := rand.New(rand.NewSource(15))
	ended, rounds := 0, 0
	for range 100 {
		asked := ""
		for len(ownLines(asked)) < maxDesk-2 {
			answers := ownLines(impl.DeskRun(asked + "can\ndone\n").Text)
			can, done := strings.TrimSpace(answers[len(answers)-2]), strings.TrimSpace(answers[len(answers)-1])
			if (can == "-") != (done == "yes") {
				t.Fatalf("%q can go on, and done is %s, behind %q", can, done, asked)
			}
			if can == "-" {
				ended++
				break
			}
			roles := strings.Split(can, ",")
			choice := r.Intn(8)
			if r.Intn(3) == 0 {
				choice *= 2
			}
			asked += "pick " + roles[r.Intn(len(roles))] + " " + strconv.Itoa(choice) + "\n"
		}
		told := impl.DeskRun(asked).Text
		if strings.Contains(told, "error") {
			t.Errorf("%q tells %q", asked, told)
		}
		if strings.Contains(told, "recv b say\n") {
			rounds++
		}
	}
	if ended < 40 || rounds < 40 {
		t.Errorf("%d come to their end, %d go round", ended, rounds)
	}
}

// Whoever does their own part is never told to have broken it, whatever happens on the way.
func TestPromise15OwnPartsAreNotFound(t *testing.T) {
	tapes := allTapes(4, 0, 1, 2, 3, 100, 200, 300)
	for _, role := range []string{"a", "b", "c"} {
		for chunk := range slices.Chunk(tapes, maxDesk-1) {
			asked := "turn " + role + " nothing zzz\n"
			for _, tape := range chunk {
				if len(tape) > 0 {
					asked += "play " + listOf(tape) + "\n"
				}
			}
			told := impl.DeskRun(asked).Text
			if !strings.HasPrefix(told, "ok\n") || strings.Contains(told, "\n2 ") || strings.Contains(told, "error") {
				t.Fatalf("%q tells %q", asked, told)
			}
		}
	}
}

func TestPromise15AnotherWordIsFound(t *testing.T) {
	for _, c := range []struct {
		turn   string
		tape   string
		told   string
		shrunk string
	}{
		{"a ask aaa", "0", "2 0 1", "0"},
		{"a ask asks", "6,1,1", "2 0 1", "0"},
		{"a ask r", "1,2,100,0", "2 3 1", "0"},
		{"a stop zzz", "3", "2 0 1", "3"},
		{"a stop say", "3,1", "2 0 1", "3"},
		{"a stop stopp", "0,1,1,2,2,1,1,0,3", "2 8 3", "0,1,1,2,2,1,1,0,3"},
		{"a stop stopp", "2,0,1,1,2,2,1,1,0,3,1,1", "2 9 3", "0,1,1,2,2,1,1,0,3"},
		{"c say zzz", "0,1,1,2,2", "2 4 2", "0,1,1,2,2"},
		{"c say aaa", "3,0,1,1,2,2", "1 0 1", "error 6"},
		{"c say aaa", "0,0,1,1,1,2,2,2", "2 6 2", "0,1,1,2,2"},
		{"c say ask", "6,7,7,8,8", "2 4 2", "0,7,7,8,8"},
		{"c say stop", "0,1,1,2,2,1,1,0", "2 4 2", "0,1,1,2,2"},
	} {
		talks(t, c.turn, "turn "+c.turn+" => ok", "play "+c.tape+" => "+c.told, "shrink "+c.tape+" => "+c.shrunk)
		if c.shrunk != "error 6" {
			foundAtLeast(t, "plan "+deskText, "turn "+c.turn, ownNumbers(c.shrunk))
		}
	}
}

// foundAtLeast: by this tape another word is found at its last number, and by none of the smaller ones of it is any.
func foundAtLeast(t *testing.T, plan string, turn string, tape []int64) {
	t.Helper()
	out := impl.DeskRun(lined(plan, turn, "play "+listOf(tape), "shrink "+listOf(tape)))
	answers := ownLines(out.Text)
	if len(answers) != 4 || !strings.HasPrefix(answers[2], fmt.Sprintf("2 %d ", len(tape)-1)) || answers[3] != listOf(tape)+"\n" {
		t.Errorf("%q, %q: the tape %v tells %q", plan, turn, tape, out.Text)
	}
	for chunk := range slices.Chunk(impl.SmallerOf(tape), maxDesk-2) {
		asked := lined(plan, turn)
		for _, one := range chunk {
			if len(one) > 0 {
				asked += "play " + listOf(one) + "\n"
			}
		}
		if told := impl.DeskRun(asked).Text; strings.Contains(told, "\n2 ") || strings.Contains(told, "error") {
			t.Errorf("%q tells %q, which is less", asked, told)
		}
	}
}

// aloneSaid are the labels that a role says and does not hear: whoever turns one of these says another word sooner or later.
func aloneSaid(m impl.Machine) []string {
	var said []string
	for _, e := range m.Edges {
		heard := slices.ContainsFunc(m.Edges, func(o impl.Edge) bool { return o.Label == e.Label && m.States[o.From].Kind == impl.StRecv })
		if !heard && !slices.Contains(said, e.Label) {
			said = append(said, e.Label)
		}
	}
	return said
}

func TestPromise15AnotherWordInManyPlans(t *testing.T) {
	r := rand.New(rand.NewSource(151))
	found, open := 0, 0
	for _, plan := range soundPlans(120) {
		text := drawn(plan)
		if !fitsInLine(text) {
			continue
		}
		for _, role := range ownRoles(plan) {
			own := truePlay(plan, role).Table
			for _, label := range aloneSaid(own) {
				turn := "turn " + role + " " + label + " " + label + "_"
				for _, tape := range tapesOf(r, plan, role) {
					if len(tape) == 0 {
						continue
					}
					asked := lined("plan "+text, turn, "play "+listOf(tape), "shrink "+listOf(tape))
					want := ownDeskRun(asked)
					wantDesk(t, "another word", asked, want)
					answers := ownLines(want.Text)
					if answers[0] != "ok\n" || answers[1] != "ok\n" {
						break
					}
					if !strings.HasPrefix(answers[2], "2 ") {
						open++
						continue
					}
					found++
					foundAtLeast(t, "plan "+text, turn, ownNumbers(strings.TrimSpace(answers[3])))
				}
			}
		}
	}
	if found < 200 || open < 200 {
		t.Errorf("%d are found, %d are not", found, open)
	}
}
