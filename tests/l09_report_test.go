package tests

import (
	"fmt"
	"math"
	"math/rand"
	"slices"
	"strings"
	"testing"

	"loop.example/g00574/impl"
)

// The first one says a word to the third one, then may say up to three ahead of the second one, who listens.
const aheadText = "a>c{go(none).rec x.a>b{hi(int).x,no(none).end}}"

func reportOf(p impl.Play, tape []int64, verdict int64, at int64) impl.Report {
	return impl.Report{Play: p, Tape: tape, Verdict: verdict, At: at}
}

func copyOfReport(r impl.Report) impl.Report {
	return reportOf(copyOfPlay(r.Play), slices.Clone(r.Tape), r.Verdict, r.At)
}

func sameReport(a impl.Report, b impl.Report) bool {
	return samePlay(a.Play, b.Play) && slices.Equal(a.Tape, b.Tape) && a.Verdict == b.Verdict && a.At == b.At
}

func shownReport(r impl.Report) string {
	return fmt.Sprintf("Verdict %d At %d of %s", r.Verdict, r.At, shownPlay(r.Play, r.Tape))
}

func wantReport(t *testing.T, what string, got impl.ReportOut, want impl.ReportOut) {
	t.Helper()
	if got.Code != want.Code || !sameReport(got.Report, want.Report) {
		t.Errorf("%.300s: got the code %d and %s, want %d and %s", what, got.Code, shownReport(got.Report), want.Code, shownReport(want.Report))
	}
}

// ownReport tells what ReportOf should, by the test's own rules for plays and for the way down.
func ownReport(p impl.Play, tape []int64) impl.ReportOut {
	if len(tape) > 400 {
		return impl.ReportOut{Code: impl.ErrSize}
	}
	if !ownPlayRight(p) || !ownTapeRight(tape) {
		return impl.ReportOut{Code: impl.ErrForm}
	}
	if down, _ := ownShrink(p, tape); down.Code == impl.OK {
		tape = down.Tape
	}
	played := ownPlay(p, tape)
	return impl.ReportOut{Report: reportOf(p, tape, played.Verdict, played.At)}
}

func ownReportRight(r impl.Report) bool {
	verdicts := []int64{impl.VdOpen, impl.VdPass, impl.VdBroken}
	return ownPlayRight(r.Play) && ownTapeRight(r.Tape) && slices.Contains(verdicts, r.Verdict) && r.At >= 0 && r.At <= 12
}

// innerBy writes what a Report's seal is around, with its numbers, those of lengths and of its Table among them, put as it is told.
func innerBy(r impl.Report, put func(n int64) string) string {
	text := ""
	for _, part := range []func() string{
		func() string { return drawn(r.Play.Plan) },
		func() string { return r.Play.Role },
		func() string { return putBy(r.Play.Table, put) },
	} {
		one := part()
		text += put(int64(len(one))) + one
	}
	text += put(int64(len(r.Tape)))
	for _, number := range r.Tape {
		text += put(number)
	}
	return text + put(r.Verdict) + put(r.At)
}

func ownBytes(r impl.Report) string {
	return ownSeal(innerBy(r, varint))
}

func refusesReport(t *testing.T, what string, text string, code int64) {
	t.Helper()
	wantReport(t, fmt.Sprintf("%s: ReportRead of %.80q", what, text), impl.ReportRead(text), impl.ReportOut{Code: code})
}

// readsExactly: what ReportRead tells is right, and has just these bytes; else nothing is told.
func readsExactly(t *testing.T, what string, text string) bool {
	t.Helper()
	out := impl.ReportRead(text)
	if out.Code != impl.OK {
		wantReport(t, fmt.Sprintf("%s: ReportRead of %.80q", what, text), out, impl.ReportOut{Code: impl.ErrSyntax})
		return false
	}
	if !ownReportRight(out.Report) || ownBytes(out.Report) != text || impl.ReportBytes(out.Report) != text {
		t.Errorf("%s: ReportRead of %.200q: got %s", what, text, shownReport(out.Report))
	}
	return true
}

// reportInRooms lays the lists of a Report into longer ones.
func reportInRooms(r impl.Report) (laid impl.Report, rooms impl.Report) {
	laid, rooms = r, r
	laid.Play, rooms.Play = playInRooms(r.Play)
	rooms.Tape = append(slices.Clone(r.Tape), 77)
	laid.Tape = rooms.Tape[:len(r.Tape)]
	return laid, rooms
}

// holdsReport asks ReportBytes, ReportRead and ReportGood of a Report, and whether it stays as it is.
func holdsReport(t *testing.T, what string, r impl.Report) {
	t.Helper()
	laid, rooms := reportInRooms(r)
	before := copyOfReport(rooms)
	text, good := impl.ReportBytes(laid), impl.ReportGood(laid)
	about := what + ": " + shownReport(r)
	if !ownReportRight(r) {
		if text != "" || good {
			t.Errorf("%s: it is not right: ReportBytes %.60q, ReportGood %v", about, text, good)
		}
	} else {
		played := ownPlay(r.Play, r.Tape)
		if text != ownBytes(r) {
			t.Errorf("%s: ReportBytes: got %.300q, want %.300q", about, text, ownBytes(r))
		}
		if good != (played.Verdict == r.Verdict && played.At == r.At) {
			t.Errorf("%s: ReportGood: got %v", about, good)
		}
		wantReport(t, about+": read", impl.ReportRead(text), impl.ReportOut{Report: r})
	}
	if !sameReport(rooms, before) {
		t.Errorf("%s: what is handed in, or what is behind it, has been changed", about)
	}
}

// holdsReportOf asks ReportOf, and whether what is handed in stays as it is.
func holdsReportOf(t *testing.T, what string, p impl.Play, tape []int64) impl.ReportOut {
	t.Helper()
	laid, rooms := reportInRooms(reportOf(p, tape, 0, 0))
	before := copyOfReport(rooms)
	got := impl.ReportOf(laid.Play, laid.Tape)
	wantReport(t, what+": "+shownPlay(p, tape), got, ownReport(p, tape))
	if !sameReport(rooms, before) {
		t.Errorf("%s: what is handed in, or what is behind it, has been changed: %s", what, shownPlay(p, tape))
	}
	return got
}

// holdsPromise13: what is told of a play is good, and comes back from its bytes; a tape that fails is told by its shortest talk, any other one as it is.
func holdsPromise13(t *testing.T, what string, p impl.Play, tape []int64) impl.Report {
	t.Helper()
	out := holdsReportOf(t, what, p, tape)
	r, about := out.Report, what+": "+shownPlay(p, tape)
	if out.Code != impl.OK || !samePlay(r.Play, p) || !impl.ReportGood(r) {
		t.Errorf("%s: got the code %d and %s, which is not good", about, out.Code, shownReport(r))
	}
	wantReport(t, about, impl.ReportRead(impl.ReportBytes(r)), out)
	wantReport(t, about+": told again", impl.ReportOf(r.Play, r.Tape), out)
	if impl.Fails(p, tape) {
		if !slices.Equal(r.Tape, impl.Shrink(p, tape).Tape) || !impl.Fails(p, r.Tape) || !impl.Least(p, r.Tape) || r.Verdict != impl.VdBroken || r.At >= int64(len(r.Tape)) {
			t.Errorf("%s: got %s, which does not fail by the shortest talk", about, shownReport(r))
		}
	} else if !slices.Equal(r.Tape, tape) || r.Verdict == impl.VdBroken || r.At != 0 {
		t.Errorf("%s: it does not fail: got %s", about, shownReport(r))
	}
	holdsReport(t, what, r)
	return r
}

// zzzAhead says go and six times hi, then zzz: of the shortest talk in which that comes twelve numbers are needed.
func zzzAhead(t testing.TB) impl.Play {
	return playOf(readPlan(t, aheadText), "a", impl.MachineOf(impl.PartRead("c!{go(none)."+strings.Repeat("b!{hi(int).", 6)+"b!{zzz(none).end}}}}}}}}").Part).Machine)
}

func TestPromise13KnownReports(t *testing.T) {
	desk := zzzDesk()
	own := truePlay(impl.DeskPlan(), "a")
	talks := playOf(readPlan(t, onceText), "a", machineRead(t, "b!{zzz(none).end}"))
	for _, c := range []struct {
		what    string
		p       impl.Play
		tape    []int64
		told    []int64
		verdict int64
		at      int64
	}{
		{"broken at once", desk, numbers(3), numbers(3), impl.VdBroken, 0},
		{"one left out", desk, numbers(1, 3), numbers(3), impl.VdBroken, 0},
		{"At is that of the shortest talk", desk, numbers(1, 2, 100, 9, 0), numbers(9), impl.VdBroken, 0},
		{"a lesser number in its place", talks, numbers(8), numbers(0), impl.VdBroken, 0},
		{"the last one of nine", desk, numbers(0, 1, 1, 2, 2, 1, 1, 0, 3, 1, 1, 2), numbers(0, 1, 1, 2, 2, 1, 1, 0, 3), impl.VdBroken, 8},
		{"twelve that are broken at once", desk, slices.Repeat(numbers(99), maxTape), numbers(99), impl.VdBroken, 0},
		{"the last one of twelve", zzzAhead(t), numbers(0, 0, 0, 0, 1, 0, 1, 0, 1, 0, 1, 0), numbers(0, 0, 0, 0, 1, 0, 1, 0, 1, 0, 1, 0), impl.VdBroken, 11},
		{"it does not fail", desk, numbers(1), numbers(1), impl.VdOpen, 0},
		{"it does not fail, though a smaller one does", desk, numbers(4), numbers(4), impl.VdOpen, 0},
		{"it does not fail, and could be shorter", desk, numbers(399, 0, 0, 0, 100), numbers(399, 0, 0, 0, 100), impl.VdOpen, 0},
		{"no number", desk, nil, nil, impl.VdOpen, 0},
		{"an empty tape", desk, numbers(), nil, impl.VdOpen, 0},
		{"an empty tape of who keeps to their part", own, numbers(), nil, impl.VdOpen, 0},
		{"their own part, to its end", own, numbers(3, 1, 1, 2), numbers(3, 1, 1, 2), impl.VdPass, 0},
		{"their own part, past its end", own, numbers(3, 1, 1, 2, 0, 1, 2, 100, 200, 300, 399, 99), numbers(3, 1, 1, 2, 0, 1, 2, 100, 200, 300, 399, 99), impl.VdPass, 0},
		{"their own part, not to its end", own, numbers(3, 1, 1), numbers(3, 1, 1), impl.VdOpen, 0},
		{"twelve times 0", own, make([]int64, maxTape), make([]int64, maxTape), impl.VdOpen, 0},
		{"twelve times 399", desk, slices.Repeat(numbers(399), maxTape), slices.Repeat(numbers(399), maxTape), impl.VdOpen, 0},
	} {
		want := reportOf(c.p, c.told, c.verdict, c.at)
		wantReport(t, c.what, impl.ReportOf(c.p, c.tape), impl.ReportOut{Report: want})
		if !impl.ReportGood(want) {
			t.Errorf("%s: ReportGood: got false", c.what)
		}
		holdsPromise13(t, c.what, c.p, c.tape)
	}
}

// Which fault is told, and that nothing is told beside it: also where a part of the tape could be played, and would be broken.
func TestReportOfCodes(t *testing.T) {
	right := zzzDesk()
	nobody := playOf(right.Plan, "d", right.Table)
	clash := playOf(readPlan(t, clashText), "a", right.Table)
	table := playOf(right.Plan, "a", impl.Machine{})
	for _, c := range []struct {
		what string
		p    impl.Play
		tape []int64
		code int64
	}{
		{"a number below 0", right, numbers(-1), impl.ErrForm},
		{"a number of 400", right, numbers(400), impl.ErrForm},
		{"a number of 400 behind what is broken", right, numbers(3, 400), impl.ErrForm},
		{"a number below 0 ahead of what is broken", right, numbers(-1, 3), impl.ErrForm},
		{"13 numbers", right, make([]int64, 13), impl.ErrForm},
		{"13 that would be broken", right, slices.Repeat(numbers(3), 13), impl.ErrForm},
		{"14 numbers", right, make([]int64, 14), impl.ErrForm},
		{"MaxList less 1", right, make([]int64, impl.MaxList-1), impl.ErrForm},
		{"MaxList numbers", right, slices.Repeat(numbers(3), impl.MaxList), impl.ErrForm},
		{"MaxList and one", right, slices.Repeat(numbers(3), impl.MaxList+1), impl.ErrSize},
		{"MaxList and one that are wrong", right, slices.Repeat(numbers(-1), impl.MaxList+1), impl.ErrSize},
		{"far too many", right, make([]int64, 100000), impl.ErrSize},
		{"nobody", nobody, numbers(3), impl.ErrForm},
		{"nobody, and no number", nobody, nil, impl.ErrForm},
		{"nobody, and a wrong number", nobody, numbers(400), impl.ErrForm},
		{"nobody, and MaxList numbers", nobody, make([]int64, impl.MaxList), impl.ErrForm},
		{"nobody, and MaxList and one", nobody, make([]int64, impl.MaxList+1), impl.ErrSize},
		{"not Sound", clash, numbers(3), impl.ErrForm},
		{"not Sound, and MaxList and one", clash, make([]int64, impl.MaxList+1), impl.ErrSize},
		{"no Table", table, numbers(3), impl.ErrForm},
		{"no Table, and MaxList and one", table, make([]int64, impl.MaxList+1), impl.ErrSize},
		{"nothing at all", impl.Play{}, nil, impl.ErrForm},
		{"nothing at all, and far too many", impl.Play{}, make([]int64, 5000), impl.ErrSize},
		{"too long a plan", playOf(slices.Repeat(right.Plan, 100), "a", right.Table), numbers(3), impl.ErrForm},
		{"too long a Role", playOf(right.Plan, strings.Repeat("a", impl.MaxBytes+1), right.Table), numbers(3), impl.ErrForm},
		{"too long a Table", playOf(right.Plan, "a", circle(impl.MaxList+1)), numbers(3), impl.ErrForm},
	} {
		wantReport(t, c.what, impl.ReportOf(c.p, c.tape), impl.ReportOut{Code: c.code})
		holdsReportOf(t, c.what, c.p, c.tape)
	}
}

// Each edge of what a right Play is, with tapes that are right and wrong.
func TestReportOfRightPlays(t *testing.T) {
	codes := map[int64]int{}
	for _, c := range somePlays(t) {
		for _, tape := range append(tapesNearby(), wrongTapes()...) {
			out := holdsReportOf(t, c.what, c.p, tape)
			codes[out.Code]++
			if out.Code == impl.OK && !c.right {
				t.Errorf("%s: got %s", c.what, shownReport(out.Report))
			}
			if out.Code == impl.OK {
				holdsPromise13(t, c.what, c.p, tape)
			}
		}
	}
	if codes[impl.OK] < 100 || codes[impl.ErrForm] < 100 || codes[impl.ErrSize] < 100 || len(codes) != 3 {
		t.Errorf("too few of some codes: %v", codes)
	}
}

func TestPromise13KnownBytes(t *testing.T) {
	plan := readPlan(t, onceText)
	talks := truePlay(plan, "a")
	ends := playOf(plan, "b", machineOf(0, states(endState())))
	const once = "\x20a>b{l(none).end}"
	const table = "\x1a\x04\x02\x02b\x00\x00\x02\x00\x02l\x00\x02\x00"
	for _, c := range []struct {
		inner string
		r     impl.Report
	}{
		{once + "\x02a" + table + "\x00\x00\x00", reportOf(talks, nil, impl.VdOpen, 0)},
		{once + "\x02a" + table + "\x04\x00\x02\x02\x00", reportOf(talks, numbers(0, 1), impl.VdPass, 0)},
		{once + "\x02a" + table + "\x04\x00\x9e\x06\x04\x18", reportOf(talks, numbers(0, 399), impl.VdBroken, 12)},
		{once + "\x02b\x0a\x02\x00\x00\x00\x00\x18" + strings.Repeat("\x00", 12) + "\x02\x16", reportOf(ends, make([]int64, 12), impl.VdPass, 11)},
		{once + "\x02b\x0a\x02\x00\x00\x00\x00\x18" + strings.Repeat("\x9e\x06", 12) + "\x00\x02", reportOf(ends, slices.Repeat(numbers(399), 12), impl.VdOpen, 1)},
	} {
		if got := impl.ReportBytes(c.r); got != ownSeal(c.inner) {
			t.Errorf("ReportBytes of %s: got %q, want %q", shownReport(c.r), got, ownSeal(c.inner))
		}
		wantReport(t, "its bytes", impl.ReportRead(ownSeal(c.inner)), impl.ReportOut{Report: c.r})
		holdsReport(t, "known bytes", c.r)
	}
	// One whole text, its seal too.
	if got := impl.ReportBytes(reportOf(ends, nil, impl.VdOpen, 0)); got != once+"\x02b\x0a\x02\x00\x00\x00\x00\x00\x00\x00\x84\x7c\x48\x76" {
		t.Errorf("ReportBytes: got %q", got)
	}
}

// someTold are tapes as a Report may have them: none, one number, all that there may be, the least and the greatest ones.
func someTold() [][]int64 {
	return [][]int64{nil, {}, {0}, {399}, {63, 64, 99, 100}, make([]int64, 11), make([]int64, 12), slices.Repeat(numbers(399), 12), {0, 1, 1, 2, 2, 1, 1, 0, 3, 1, 1, 2}}
}

// Each Verdict and each At, whether it is so or not, with each edge of what is right beside it.
func TestPromise13EveryVerdictAndAt(t *testing.T) {
	for _, p := range []impl.Play{zzzDesk(), truePlay(readPlan(t, onceText), "b"), playOf(wideRow(40), ownRoles(wideRow(40))[0], fan(80))} {
		for _, tape := range someTold() {
			goods := 0
			for verdict := int64(-1); verdict <= 3; verdict++ {
				for at := int64(-1); at <= 13; at++ {
					r := reportOf(p, tape, verdict, at)
					right := verdict >= 0 && verdict <= 2 && at >= 0 && at <= 12
					if got := impl.ReportBytes(r) != ""; got != right || ownReportRight(r) != right {
						t.Errorf("%s: ReportBytes: got one: %v", shownReport(r), got)
					}
					if got := impl.ReportRead(ownBytes(r)).Code == impl.OK; got != right {
						t.Errorf("%s: ReportRead: got one: %v", shownReport(r), got)
					}
					if impl.ReportGood(r) {
						goods++
					}
					holdsReport(t, "a Verdict and an At", r)
				}
			}
			if goods != 1 {
				t.Errorf("%d of all Verdicts and Ats are good: %s", goods, shownPlay(p, tape))
			}
		}
	}
}

// wrongReports are not right in one thing; what else is told is right, and good.
func wrongReports(t *testing.T) map[string]impl.Report {
	t.Helper()
	good := impl.ReportOf(zzzDesk(), numbers(1, 3)).Report
	wrong := map[string]impl.Report{"nothing at all": {}, "no Play": reportOf(impl.Play{}, good.Tape, good.Verdict, good.At)}
	add := func(what string, turn func(r *impl.Report)) {
		r := copyOfReport(good)
		turn(&r)
		wrong[what] = r
	}
	for _, c := range somePlays(t) {
		if !c.right {
			add("a Play: "+c.what, func(r *impl.Report) { r.Play = c.p })
		}
	}
	for i, tape := range wrongTapes() {
		add(fmt.Sprintf("the wrong tape %d", i), func(r *impl.Report) { r.Tape = tape })
	}
	for _, n := range numbers(-1, 3, 4, 64, math.MinInt64, math.MaxInt64, 1<<32) {
		add(fmt.Sprintf("the Verdict %d", n), func(r *impl.Report) { r.Verdict = n })
	}
	for _, n := range numbers(-1, 13, 14, 64, math.MinInt64, math.MaxInt64, 1<<32) {
		add(fmt.Sprintf("At %d", n), func(r *impl.Report) { r.At = n })
	}
	return wrong
}

func TestReportsThatAreNotRight(t *testing.T) {
	for what, r := range wrongReports(t) {
		if ownReportRight(r) {
			t.Fatalf("%s: it is right: %s", what, shownReport(r))
		}
		if text := impl.ReportBytes(r); text != "" {
			t.Errorf("%s: ReportBytes: got %.80q", what, text)
		}
		if impl.ReportGood(r) {
			t.Errorf("%s: ReportGood: got true", what)
		}
		holdsReport(t, what, r)
		code := int64(impl.ErrSyntax)
		if len(ownBytes(r)) > impl.MaxBytes {
			code = impl.ErrSize
		}
		refusesReport(t, what, ownBytes(r), code)
	}
}

// someReports are short and long, good and not, and of each Verdict.
func someReports(t *testing.T) []impl.Report {
	t.Helper()
	once := readPlan(t, onceText)
	return []impl.Report{
		reportOf(playOf(once, "b", machineOf(0, states(endState()))), nil, impl.VdOpen, 0),
		reportOf(truePlay(once, "a"), numbers(0, 1), impl.VdPass, 0),
		reportOf(truePlay(once, "a"), numbers(0, 64, 399), impl.VdBroken, 12),
		impl.ReportOf(zzzDesk(), numbers(0, 1, 1, 2, 2, 1, 1, 0, 3)).Report,
		reportOf(truePlay(readPlan(t, toldText), "b"), slices.Repeat(numbers(100), 12), impl.VdPass, 7),
	}
}

func TestPromise13BytesNearby(t *testing.T) {
	for _, r := range someReports(t) {
		text := impl.ReportBytes(r)
		if !readsExactly(t, "as it is", text) {
			t.Fatalf("it does not come back: %s", shownReport(r))
		}
		for i := range text {
			refusesReport(t, "its beginning", text[:i], impl.ErrSyntax)
			refusesReport(t, "its end", text[i+1:], impl.ErrSyntax)
			refusesReport(t, "one byte cut out", text[:i]+text[i+1:], impl.ErrSyntax)
			for b := range 256 {
				one := string([]byte{byte(b)})
				if one != text[i:i+1] {
					refusesReport(t, "one byte turned", text[:i]+one+text[i+1:], impl.ErrSyntax)
				}
				refusesReport(t, "one byte put in", text[:i]+one+text[i:], impl.ErrSyntax)
			}
		}
		for b := range 256 {
			refusesReport(t, "one byte put behind", text+string([]byte{byte(b)}), impl.ErrSyntax)
		}
		refusesReport(t, "twice", text+text, impl.ErrSyntax)
		refusesReport(t, "sealed twice", ownSeal(text), impl.ErrSyntax)
		refusesReport(t, "not sealed", text[:len(text)-4], impl.ErrSyntax)
		refusesReport(t, "the seal alone", text[len(text)-4:], impl.ErrSyntax)
		refusesReport(t, "the seal ahead", text[len(text)-4:]+text[:len(text)-4], impl.ErrSyntax)
	}
}

// The same with a seal that is good each time: what it is around is then all that can be refused.
func TestPromise13SealedBytesNearby(t *testing.T) {
	others := 0
	for _, r := range someReports(t) {
		inner := innerBy(r, varint)
		for i := range inner {
			refusesReport(t, "its beginning", ownSeal(inner[:i]), impl.ErrSyntax)
			refusesReport(t, "its end", ownSeal(inner[i+1:]), impl.ErrSyntax)
			readsExactly(t, "one byte cut out", ownSeal(inner[:i]+inner[i+1:]))
			for b := range 256 {
				one := string([]byte{byte(b)})
				if one != inner[i:i+1] && readsExactly(t, "one byte turned", ownSeal(inner[:i]+one+inner[i+1:])) {
					others++
				}
				if b < 128 {
					readsExactly(t, "one byte put in", ownSeal(inner[:i]+one+inner[i:]))
				}
			}
		}
		for b := range 256 {
			refusesReport(t, "one byte put behind", ownSeal(inner+string([]byte{byte(b)})), impl.ErrSyntax)
		}
		refusesReport(t, "twice", ownSeal(inner+inner), impl.ErrSyntax)
	}
	// Another label, another number, another Verdict: those of a right Report too.
	if others < 1000 {
		t.Errorf("only %d other Reports are right", others)
	}
}

// Each number of the bytes, those of lengths and of the Table among them, by turns in more bytes than it needs, and as another one; all seals are good.
func TestPromise13NumbersInBytes(t *testing.T) {
	for _, r := range someReports(t) {
		count := 0
		innerBy(r, func(int64) string { count++; return "" })
		for at := range count {
			turned := func(put func(n int64) string) string {
				i := -1
				return ownSeal(innerBy(r, func(n int64) string {
					if i++; i == at {
						return put(n)
					}
					return varint(n)
				}))
			}
			if turned(varint) != impl.ReportBytes(r) {
				t.Fatalf("the bytes are not those of %s", shownReport(r))
			}
			refusesReport(t, "a number in more bytes than it needs", turned(func(n int64) string {
				b := []byte(varint(n))
				b[len(b)-1] |= 128
				return string(b) + "\x00"
			}), impl.ErrSyntax)
			refusesReport(t, "no number", turned(func(int64) string { return strings.Repeat("\xff", 10) }), impl.ErrSyntax)
			refusesReport(t, "a number that is not there", turned(func(int64) string { return "" }), impl.ErrSyntax)
			for _, other := range numbers(-1, -400, 400, 8001, math.MinInt64, math.MaxInt64, 1<<32) {
				refusesReport(t, "a number that may stand nowhere", turned(func(int64) string { return varint(other) }), impl.ErrSyntax)
			}
			for _, more := range numbers(-2, -1, 1, 2, 12, 13, 40, 80) {
				readsExactly(t, "another number", turned(func(n int64) string { return varint(n + more) }))
			}
		}
	}
}

// What is sealed as it should be, but is not what a Report's bytes are, or not of a right one.
func TestPromise13SealedWrongReports(t *testing.T) {
	text := func(t string) string { return varint(int64(len(t))) + t }
	const end = "\x04\x00\x02\x04\x00" // a tape of 0 and 1, VdBroken, At 0
	once, role := text(onceText), text("a")
	table := text(putBy(truePlay(readPlan(t, onceText), "a").Table, varint))
	if got := impl.ReportRead(ownSeal(once + role + table + end)); got.Code != impl.OK {
		t.Fatalf("ReportRead of a right one: got the code %d", got.Code)
	}
	for what, plan := range map[string]string{
		"an empty text":                      "",
		"no plan":                            "x",
		"a part":                             "b!{l(none).end}",
		"a plan without roles":               "end",
		"a blank ahead":                      " " + onceText,
		"a blank behind":                     onceText + " ",
		"a line feed behind":                 onceText + "\n",
		"a blank within":                     "a>b{l(none). end}",
		"a case in capitals":                 "a>b{L(none).end}",
		"two plans":                          onceText + onceText,
		"too few brackets":                   "a>b{l(none).end",
		"too many brackets":                  "a>b{l(none).end}}",
		"to itself":                          "a>a{l(none).end}",
		"a label twice":                      "a>b{l(none).end,l(none).end}",
		"back without a word between":        "rec x.x",
		"right and not Sound":                clashText,
		"right and without the Role":         "b>c{l(none).end}",
		"five roles":                         "a>b{l(none).c>d{l(none).e>a{l(none).end}}}",
		"eleven deep":                        strings.Repeat("a>b{l(none).", 11) + "end" + strings.Repeat("}", 11),
		"a byte that is none of a text":      "a>b{l(none).end}\xff",
		"a zero behind":                      onceText + "\x00",
		"a plan's text of nearly MaxBytes":   strings.Repeat("a", 7900),
		"a plan's bytes in those of a Table": putBy(truePlay(readPlan(t, onceText), "a").Table, varint),
	} {
		refusesReport(t, "a plan: "+what, ownSeal(text(plan)+role+table+end), impl.ErrSyntax)
	}
	for what, name := range map[string]string{"nothing": "", "nobody": "c", "a label": "l", "a capital": "A", "a blank behind": "a ", "a zero behind": "a\x00", "both": "ab", "too long": strings.Repeat("a", 21), "far too long": strings.Repeat("a", 7900)} {
		refusesReport(t, "a Role: "+what, ownSeal(once+text(name)+table+end), impl.ErrSyntax)
	}
	own := truePlay(readPlan(t, backText), "a").Table
	for what, m := range map[string]impl.Machine{
		"no State":               {},
		"Start behind the last":  {States: own.States, Edges: own.Edges, Start: int64(len(own.States))},
		"an Edge to nowhere":     machineOf(0, own.States, edgeTo(0, "l", 0, 40)),
		"an Edge from an end":    machineOf(0, states(endState()), edgeTo(0, "l", 0, 0)),
		"Edges in another order": machineOf(0, own.States, own.Edges[1], own.Edges[0]),
		"an Edge twice":          machineOf(0, own.States, own.Edges[0], own.Edges[0]),
		"41 States":              circle(41),
		"81 Edges":               fan(81),
	} {
		refusesReport(t, "a Table: "+what, ownSeal(once+role+text(putBy(m, varint))+end), impl.ErrSyntax)
	}
	for what, bytes := range map[string]string{
		"nothing":                     "",
		"one byte behind":             table[1:] + "\x00",
		"one byte too few":            table[1 : len(table)-1],
		"sealed by itself":            ownSeal(table[1:]),
		"as a text once more":         table,
		"more States than there are":  "\x08" + table[2:],
		"fewer States than there are": "\x02" + table[2:],
		"States below 0":              "\x01" + table[2:],
		"a number in two bytes":       "\x84\x00" + table[2:],
		"very many States":            varint(math.MaxInt64) + table[2:],
	} {
		refusesReport(t, "a Table's bytes: "+what, ownSeal(once+role+text(bytes)+end), impl.ErrSyntax)
	}
	for what, told := range map[string]string{
		"nothing":                          "",
		"no Verdict":                       "\x04\x00\x02",
		"no At":                            "\x04\x00\x02\x04",
		"half an At":                       "\x04\x00\x02\x04\x80",
		"one number more":                  end + "\x00",
		"one text more":                    end + "\x02a",
		"a tape of one too many":           "\x02\x00\x02\x04\x00",
		"a tape of one too few":            "\x06\x00\x02\x04\x00",
		"a tape without a count":           "\x00\x02\x04\x00",
		"a count below 0":                  "\x01\x04\x00",
		"a count below 0, and as many":     "\x03\x00\x02\x04\x00",
		"a count that is not there":        "\x80",
		"a count in two bytes":             "\x84\x00\x00\x02\x04\x00",
		"a count of very many":             varint(math.MaxInt64) + end,
		"a count of very few":              varint(math.MinInt64) + end,
		"a count of 12, and none":          "\x18\x04\x00",
		"a count of 12, and 11":            "\x18" + strings.Repeat("\x00", 11) + "\x04\x00",
		"a count of 13, and as many":       "\x1a" + strings.Repeat("\x00", 13) + "\x04\x00",
		"a count of 13, and no more":       "\x1a",
		"a count of 13, and none":          "\x1a\x04\x00",
		"a count of 400, and as many":      varint(400) + strings.Repeat("\x00", 400) + "\x04\x00",
		"a count of 401, and as many":      varint(401) + strings.Repeat("\x00", 401) + "\x04\x00",
		"a number of 400":                  "\x04\x00" + varint(400) + "\x04\x00",
		"a number below 0":                 "\x04\x01\x02\x04\x00",
		"a number that is none":            "\x04" + strings.Repeat("\xff", 10) + "\x02\x04\x00",
		"a number in more than ten bytes":  "\x04" + strings.Repeat("\x80", 10) + "\x00\x02\x04\x00",
		"the Verdict 3":                    "\x04\x00\x02\x06\x00",
		"the Verdict -1":                   "\x04\x00\x02\x01\x00",
		"the Verdict in two bytes":         "\x04\x00\x02\x84\x00\x00",
		"At 13":                            "\x04\x00\x02\x04\x1a",
		"At -1":                            "\x04\x00\x02\x04\x01",
		"At in two bytes":                  "\x04\x00\x02\x04\x80\x00",
		"At that is far too great":         "\x04\x00\x02\x04" + varint(math.MaxInt64),
		"Verdict and At, ahead of a tape":  "\x04\x00\x04\x00\x1a",
		"At that wraps round to one of 12": "\x04\x00\x02\x04" + varint(1<<32),
	} {
		refusesReport(t, "a tape and what came of it: "+what, ownSeal(once+role+table+told), impl.ErrSyntax)
	}
	for what, inner := range map[string]string{
		"nothing":                     "",
		"a plan alone":                once,
		"no Table":                    once + role,
		"no tape":                     once + role + table,
		"no plan":                     role + table + end,
		"no Role":                     once + table + end,
		"the Role ahead":              role + once + table + end,
		"the Table ahead":             table + once + role + end,
		"what came of it ahead":       end + once + role + table,
		"a zero ahead":                "\x00" + once + role + table + end,
		"a length below 0":            "\x01" + once[1:] + role + table + end,
		"a length in two bytes":       "\xa0\x00" + once[1:] + role + table + end,
		"a length of one too few":     "\x1e" + once[1:] + role + table + end,
		"a length of one too many":    "\x22" + once[1:] + role + table + end,
		"a length of more than there": varint(7000) + once[1:] + role + table + end,
		"a length of MaxBytes":        varint(8000) + once[1:] + role + table + end,
		"a length of far too much":    varint(math.MaxInt64) + once[1:] + role + table + end,
		"each text sealed":            text(ownSeal(onceText)) + text(ownSeal("a")) + text(ownSeal(table[1:])) + end,
		"a text without lengths":      onceText + "a" + table[1:] + end,
	} {
		refusesReport(t, "all of it: "+what, ownSeal(inner), impl.ErrSyntax)
	}
}

func TestPromise13Seals(t *testing.T) {
	for _, r := range someReports(t) {
		inner := innerBy(r, varint)
		sum := ownSeal(inner)[len(inner):]
		for bit := range 32 {
			turned := []byte(sum)
			turned[bit/8] ^= 1 << (bit % 8)
			refusesReport(t, "one bit of the seal turned", inner+string(turned), impl.ErrSyntax)
		}
		backwards := []byte(sum)
		slices.Reverse(backwards)
		refusesReport(t, "the highest byte first", inner+string(backwards), impl.ErrSyntax)
		refusesReport(t, "a seal of zeros", inner+"\x00\x00\x00\x00", impl.ErrSyntax)
		refusesReport(t, "another one's seal", inner+ownSeal(inner[1:])[len(inner)-1:], impl.ErrSyntax)
	}
}

func TestPromise13ByteSizes(t *testing.T) {
	for _, short := range []string{"", "x", "\x00", "\x00\x00\x00", "\x00\x00\x00\x00", "\x00\x00\x00\x00\x00"} {
		refusesReport(t, "short", short, impl.ErrSyntax)
	}
	one := impl.ReportBytes(someReports(t)[0])
	inner := one[:len(one)-4]
	for _, fill := range []string{"\x00", "a", "\xff"} {
		for _, size := range []int{impl.MaxBytes - 1, impl.MaxBytes} {
			refusesReport(t, "not too long", strings.Repeat(fill, size), impl.ErrSyntax)
			refusesReport(t, "not too long, behind a right one", one+strings.Repeat(fill, size-len(one)), impl.ErrSyntax)
			refusesReport(t, "not too long, sealed", ownSeal(inner+strings.Repeat(fill, size-4-len(inner))), impl.ErrSyntax)
		}
		for _, size := range []int{impl.MaxBytes + 1, impl.MaxBytes + 4, 100000} {
			refusesReport(t, "too long", strings.Repeat(fill, size), impl.ErrSize)
			refusesReport(t, "too long, behind a right one", one+strings.Repeat(fill, size-len(one)), impl.ErrSize)
			refusesReport(t, "too long, sealed", ownSeal(inner+strings.Repeat(fill, size-4-len(inner))), impl.ErrSize)
		}
	}
}

// longNames turns each text into one of 20 bytes, the same one for the same text.
func longNames(p impl.Play) impl.Play {
	long := func(name string) string {
		if name == "" {
			return ""
		}
		return name + strings.Repeat("_", 20-len(name))
	}
	p = copyOfPlay(p)
	p.Role = long(p.Role)
	for i, n := range p.Plan {
		p.Plan[i].Name, p.Plan[i].Peer = long(n.Name), long(n.Peer)
	}
	for i, s := range p.Table.States {
		p.Table.States[i].Peer = long(s.Peer)
	}
	for i, e := range p.Table.Edges {
		p.Table.Edges[i].Label = long(e.Label)
	}
	return p
}

// The greatest Reports that are right have bytes, too.
func TestPromise13GreatestReports(t *testing.T) {
	greatest := 0
	for _, plan := range [][]impl.Node{wideRow(40), impl.DeskPlan(), readPlan(t, strings.Repeat("a>b{l(text).", 10)+"end"+strings.Repeat("}", 10))} {
		for _, table := range []impl.Machine{circle(40), fan(80), machineOf(0, circle(40).States, fanOver(40, 80)...)} {
			r := reportOf(longNames(playOf(plan, ownRoles(plan)[0], table)), slices.Repeat(numbers(399), maxTape), impl.VdBroken, maxTape)
			if !ownReportRight(r) {
				t.Fatalf("it is not right: %s", shownReport(r))
			}
			holdsReport(t, "a great one", r)
			greatest = max(greatest, len(impl.ReportBytes(r)))
			holdsPromise13(t, "a great one", r.Play, r.Tape)
		}
	}
	if greatest < 3500 {
		t.Errorf("the greatest has only %d bytes", greatest)
	}
}

// fanOver makes that many Edges, spread over all States but the last one, each to the State of its number.
func fanOver(states int, count int) []impl.Edge {
	var edges []impl.Edge
	for i := range count {
		edges = append(edges, edgeTo(int64(i*(states-1)/count), fmt.Sprintf("l%02d", i), int64(i%3), int64(i%states)))
	}
	return edges
}

// What ReportRead tells need not be good: it is what somebody has told.
func TestReportReadNeedNotBeGood(t *testing.T) {
	good := impl.ReportOf(zzzDesk(), numbers(1, 3)).Report
	for what, turn := range map[string]func(r *impl.Report){
		"another Verdict":             func(r *impl.Report) { r.Verdict = impl.VdPass },
		"another At":                  func(r *impl.Report) { r.At = 1 },
		"another At, behind the tape": func(r *impl.Report) { r.At = maxTape },
		"another tape":                func(r *impl.Report) { r.Tape = numbers(0) },
		"no tape":                     func(r *impl.Report) { r.Tape = nil },
		"another Role":                func(r *impl.Report) { r.Play.Role = "b"; r.At = 2 },
		"its own part":                func(r *impl.Report) { r.Play.Table.Edges[1].Label = "stop" },
	} {
		r := copyOfReport(good)
		turn(&r)
		out := impl.ReportRead(impl.ReportBytes(r))
		wantReport(t, what, out, impl.ReportOut{Report: r})
		if impl.ReportGood(r) || impl.ReportGood(out.Report) {
			t.Errorf("%s: ReportGood: got true", what)
		}
		holdsReport(t, what, r)
	}
}

// A Report may be good by a tape that is not the shortest one: At is asked of just that tape.
func TestReportGoodOfAnyTape(t *testing.T) {
	desk := zzzDesk()
	for _, c := range []struct {
		r    impl.Report
		good bool
	}{
		{reportOf(desk, numbers(1, 3), impl.VdBroken, 1), true},
		{reportOf(desk, numbers(1, 3), impl.VdBroken, 0), false},
		{reportOf(desk, numbers(1, 3), impl.VdBroken, 2), false},
		{reportOf(desk, numbers(1, 3), impl.VdOpen, 1), false},
		{reportOf(desk, numbers(1, 3), impl.VdOpen, 0), false},
		{reportOf(desk, numbers(1, 1, 1, 1, 1, 1, 1, 1, 1, 1, 1, 3), impl.VdBroken, 11), true},
		{reportOf(desk, numbers(1, 1, 1, 1, 1, 1, 1, 1, 1, 1, 1, 3), impl.VdBroken, 12), false},
		{reportOf(desk, nil, impl.VdOpen, 0), true},
		{reportOf(desk, nil, impl.VdOpen, 1), false},
		{reportOf(desk, nil, impl.VdPass, 0), false},
		{reportOf(truePlay(desk.Plan, "a"), numbers(3, 1, 1, 2), impl.VdPass, 0), true},
		{reportOf(truePlay(desk.Plan, "a"), numbers(3, 1, 1, 2), impl.VdOpen, 0), false},
		{reportOf(truePlay(desk.Plan, "a"), numbers(3, 1, 1, 2), impl.VdBroken, 0), false},
		{reportOf(truePlay(desk.Plan, "a"), numbers(3, 1, 1, 2), impl.VdPass, 3), false},
	} {
		if got := impl.ReportGood(c.r); got != c.good {
			t.Errorf("ReportGood of %s: got %v", shownReport(c.r), got)
		}
		holdsReport(t, "any tape", c.r)
	}
}

func TestPromise13ManyPlays(t *testing.T) {
	r := rand.New(rand.NewSource(13))
	verdicts, places, shorter := map[int64]int{}, map[int64]int{}, 0
	for _, plan := range soundPlans(100) {
		for _, role := range ownRoles(plan) {
			own := truePlay(plan, role).Table
			for _, table := range []impl.Machine{own, turnedTable(r, own, role), greedyTable(r, own), anyMachine(r)} {
				p := playOf(plan, role, table)
				tapes := append(tapesOf(r, plan, role), nil)
				for _, tape := range tapes[:3+r.Intn(len(tapes)-2)] {
					// Most tapes do not fail: of these some are enough.
					if !impl.Fails(p, tape) && r.Intn(3) > 0 {
						continue
					}
					told := holdsPromise13(t, "many", p, tape)
					verdicts[told.Verdict]++
					places[told.At]++
					if len(told.Tape) < len(tape) {
						shorter++
					}
					for _, other := range numbers(0, 1, 2) {
						at := int64(r.Intn(maxTape + 1))
						turned := reportOf(told.Play, told.Tape, other, at)
						if impl.ReportGood(turned) != (other == told.Verdict && at == told.At) {
							t.Errorf("ReportGood of %s is wrong", shownReport(turned))
						}
						wantReport(t, "turned", impl.ReportRead(impl.ReportBytes(turned)), impl.ReportOut{Report: turned})
					}
				}
			}
		}
	}
	if verdicts[impl.VdOpen] < 500 || verdicts[impl.VdPass] < 100 || verdicts[impl.VdBroken] < 500 || len(places) < 5 || shorter < 300 {
		t.Errorf("too few of some: Verdicts %v, Ats %v, shorter tapes %d", verdicts, places, shorter)
	}
}

// Bytes that are cut, mixed and sealed at random, none of which may be told as something else, or end in a panic.
func TestPromise13AnyBytes(t *testing.T) {
	r := rand.New(rand.NewSource(131))
	reports := someReports(t)
	told := 0
	for range 30000 {
		a, b := innerBy(reports[r.Intn(len(reports))], varint), innerBy(reports[r.Intn(len(reports))], varint)
		mixed := []byte(a[:r.Intn(len(a)+1)] + b[r.Intn(len(b)+1):])
		if r.Intn(2) == 0 {
			mixed = []byte(a)
		}
		for range r.Intn(3) {
			if len(mixed) > 0 {
				mixed[r.Intn(len(mixed))] = byte(r.Intn(256))
			}
		}
		if readsExactly(t, "any", ownSeal(string(mixed))) {
			told++
		}
		readsExactly(t, "any that is not sealed", string(mixed))
	}
	if told < 1000 {
		t.Errorf("only %d of them are told", told)
	}
}

func TestReportNewMemory(t *testing.T) {
	plan := readPlan(t, "rec round.first>second{word(int).second>first{answer(text).round},last(none).end}")
	turned := truePlay(plan, strings.Clone("first"))
	turned.Table.Edges[0].Label = strings.Clone("bye")
	for i, p := range []impl.Play{truePlay(plan, strings.Clone("first")), truePlay(plan, strings.Clone("second")), turned} {
		for _, tape := range [][]int64{{2}, {0, 1, 1}, {2, 1, 1, 0, 0, 200, 1, 1, 300, 100}, {}} {
			about := fmt.Sprintf("the play %d by %v", i, tape)
			before, tapeBefore := copyOfPlay(p), slices.Clone(tape)
			first := impl.ReportOf(p, tape)
			text := impl.ReportBytes(first.Report)
			kept, handed := copyOfReport(first.Report), append(textsOfPlay(p), text)
			if first.Code != impl.OK || text == "" {
				t.Fatalf("%s: got the code %d", about, first.Code)
			}
			for _, ask := range []func() impl.ReportOut{
				func() impl.ReportOut { return impl.ReportOf(p, tape) },
				func() impl.ReportOut { return impl.ReportRead(text) },
			} {
				next, other := ask(), ask()
				wantReport(t, about+", asked once more", next, impl.ReportOut{Report: kept})
				table := impl.Play{Table: next.Report.Play.Table}
				texts := textsOfPlay(impl.Play{Plan: next.Report.Play.Plan, Role: next.Report.Play.Role})
				if sharesAny(append(texts, textsOfPlay(table)...), handed) || sharesAny(texts, textsOfPlay(table)) || sharesAny(texts, textsOfPlay(other.Report.Play)) {
					t.Errorf("%s: a text of the answer shares memory", about)
				}
				clearReport(next.Report)
				wantReport(t, about+", beside one that is cleared", other, impl.ReportOut{Report: kept})
				wantReport(t, about+", asked ahead of one that is cleared", first, impl.ReportOut{Report: kept})
				if !samePlay(p, before) || !slices.Equal(tape, tapeBefore) {
					t.Fatalf("%s: a list of the answer is one that is handed in", about)
				}
			}
			if impl.ReportBytes(first.Report) != text || !sameReport(first.Report, kept) || !impl.ReportGood(first.Report) {
				t.Errorf("%s: asked again, it is another Report", about)
			}
		}
	}
}

// clearReport empties all lists of a Report, and what is behind them in their memory.
func clearReport(r impl.Report) {
	clear(r.Play.Plan[:cap(r.Play.Plan)])
	clear(r.Play.Table.States[:cap(r.Play.Table.States)])
	clear(r.Play.Table.Edges[:cap(r.Play.Table.Edges)])
	clear(r.Tape[:cap(r.Tape)])
}

// What went wrong in one call is not kept for the next one.
func TestReportNothingKept(t *testing.T) {
	r := impl.ReportOf(zzzDesk(), numbers(1, 3)).Report
	text := impl.ReportBytes(r)
	for range 3 {
		for _, wrong := range []string{"", "x", text[1:], text + "x", ownSeal(""), strings.Repeat("x", impl.MaxBytes+1)} {
			if impl.ReportRead(wrong).Code == impl.OK {
				t.Errorf("ReportRead of %.60q: got OK", wrong)
			}
			wantReport(t, "a right one behind a wrong one", impl.ReportRead(text), impl.ReportOut{Report: r})
		}
	}
}
