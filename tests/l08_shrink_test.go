package tests

import (
	"fmt"
	"math"
	"math/rand"
	"slices"
	"strings"
	"testing"

	"loop.example/g00574/impl"
)

// The four kinds of smaller tapes, in the order of chapter 9.
const (
	byLeaving = iota
	byNought
	byHalf
	byOne
)

// ownLess lays both tapes out as texts of digits: how many numbers, then each of them.
func ownLess(a []int64, b []int64) bool {
	laid := func(tape []int64) string {
		text := fmt.Sprintf("%02d", len(tape))
		for _, number := range tape {
			text += fmt.Sprintf(",%03d", number)
		}
		return text
	}
	return ownTapeRight(a) && ownTapeRight(b) && laid(a) < laid(b)
}

// ownSmaller makes the smaller ones of a tape by the words of chapter 9, and tells of which kind each is.
func ownSmaller(tape []int64) (smaller [][]int64, kinds []int) {
	if !ownTapeRight(tape) {
		return nil, nil
	}
	tell := func(kind int, one []int64) {
		smaller, kinds = append(smaller, one), append(kinds, kind)
	}
	turned := func(at int, number int64) []int64 {
		one := slices.Clone(tape)
		one[at] = number
		return one
	}
	for i := range tape {
		tell(byLeaving, slices.Delete(slices.Clone(tape), i, i+1))
	}
	for i := range tape {
		if tape[i] > 0 {
			tell(byNought, turned(i, 0))
		}
	}
	for i := range tape {
		if tape[i] > 1 {
			tell(byHalf, turned(i, (tape[i]-tape[i]%2)/2))
		}
	}
	for i := range tape {
		if tape[i] > 2 {
			tell(byOne, turned(i, tape[i]-1))
		}
	}
	return smaller, kinds
}

// ownShrink goes down by the test's own rules for plays and for smaller tapes, and tells by which kinds of steps.
func ownShrink(p impl.Play, tape []int64) (out impl.ShrinkOut, went [4]int64) {
	switch {
	case len(tape) > 400:
		return impl.ShrinkOut{Code: impl.ErrSize}, went
	case !ownPlayRight(p) || !ownTapeRight(tape):
		return impl.ShrinkOut{Code: impl.ErrForm}, went
	case ownPlay(p, tape).Verdict != impl.VdBroken:
		return impl.ShrinkOut{Code: impl.ErrNone}, went
	}
	out.Tape = tape
down:
	smaller, kinds := ownSmaller(out.Tape)
	for i, one := range smaller {
		if ownPlay(p, one).Verdict == impl.VdBroken {
			went[kinds[i]]++
			out.Tape = one
			out.Steps++
			goto down
		}
	}
	return out, went
}

// walkedDown goes down by the program's SmallerOf and Fails.
func walkedDown(p impl.Play, tape []int64) impl.ShrinkOut {
	out := impl.ShrinkOut{Tape: tape}
	for {
		smaller := impl.SmallerOf(out.Tape)
		first := slices.IndexFunc(smaller, func(one []int64) bool { return impl.Fails(p, one) })
		if first < 0 {
			return out
		}
		out.Tape = smaller[first]
		out.Steps++
	}
}

func sameTapes(a [][]int64, b [][]int64) bool {
	return slices.EqualFunc(a, b, slices.Equal[[]int64])
}

func cloneTapes(tapes [][]int64) [][]int64 {
	var all [][]int64
	for _, tape := range tapes {
		all = append(all, slices.Clone(tape))
	}
	return all
}

func wantShrink(t *testing.T, what string, got impl.ShrinkOut, want impl.ShrinkOut) {
	t.Helper()
	if got.Code != want.Code || got.Steps != want.Steps || !slices.Equal(got.Tape, want.Tape) {
		t.Errorf("%.500s: got %+v, want %+v", what, got, want)
	}
}

// wrongTapes are of each kind that is not right.
func wrongTapes() [][]int64 {
	wrong := [][]int64{make([]int64, maxTape+1), make([]int64, maxTape+2), make([]int64, impl.MaxList), make([]int64, impl.MaxList+1), make([]int64, 5000)}
	for _, number := range numbers(-1, 400, 401, math.MinInt64, math.MaxInt64, 1<<32) {
		wrong = append(wrong, numbers(number), numbers(number, 0, 0), numbers(0, number, 0), numbers(0, 0, number), append(make([]int64, maxTape-1), number), slices.Repeat(numbers(number), impl.MaxList+1))
	}
	return wrong
}

// allTapes are all of at most that many of these numbers.
func allTapes(most int, of ...int64) [][]int64 {
	all := [][]int64{nil}
	for from := 0; most > 0; most-- {
		till := len(all)
		for _, tape := range all[from:till] {
			for _, number := range of {
				all = append(all, append(slices.Clone(tape), number))
			}
		}
		from = till
	}
	return all
}

// rightTapes are right ones of each length, with many that are nearly the same.
func rightTapes(r *rand.Rand, count int) [][]int64 {
	all := [][]int64{nil}
	for len(all) < count {
		tape := make([]int64, r.Intn(maxTape+1))
		for i := range tape {
			tape[i] = []int64{0, 1, 2, 3, 9, 10, 99, 100, 399, int64(r.Intn(400))}[r.Intn(10)]
		}
		all = append(all, tape)
		if len(tape) > 0 {
			near := slices.Clone(tape)
			near[r.Intn(len(near))] = int64(r.Intn(400))
			all = append(all, near)
		}
	}
	return all
}

func TestTapeLess(t *testing.T) {
	twelve := numbers(5, 5, 5, 5, 5, 5, 5, 5, 5, 5, 5, 5)
	with := func(at int, number int64) []int64 {
		tape := slices.Clone(twelve)
		tape[at] = number
		return tape
	}
	for _, c := range []struct {
		what string
		a, b []int64
		less bool
	}{
		{"none twice", nil, nil, false},
		{"none and an empty one", nil, numbers(), false},
		{"none and one", nil, numbers(0), true},
		{"an empty one and one", numbers(), numbers(399), true},
		{"one twice", numbers(7), numbers(7), false},
		{"one less", numbers(0), numbers(1), true},
		{"one more by a digit", numbers(9), numbers(10), true},
		{"one more by two digits", numbers(9), numbers(100), true},
		{"the least and the greatest", numbers(0), numbers(399), true},
		{"fewer, though greater", numbers(399), numbers(0, 0), true},
		{"fewer, though it begins greater", numbers(1), numbers(0, 0), true},
		{"fewer: it begins the other one", numbers(1, 2), numbers(1, 2, 0), true},
		{"eleven and twelve", slices.Repeat(numbers(399), 11), make([]int64, 12), true},
		{"two and twelve", numbers(399, 399), make([]int64, 12), true},
		{"they part in the first", numbers(1, 9, 9), numbers(2, 0, 0), true},
		{"they part in the middle", numbers(1, 2, 9), numbers(1, 3, 0), true},
		{"they part in the last", numbers(1, 2, 3), numbers(1, 2, 4), true},
		{"they part twice: the first one counts", numbers(1, 5, 9, 0), numbers(1, 6, 8, 0), true},
		{"twelve twice", twelve, slices.Clone(twelve), false},
		{"twelve that part in the first", with(0, 4), twelve, true},
		{"twelve that part in the middle", with(6, 4), twelve, true},
		{"twelve that part in the last", with(11, 4), twelve, true},
		{"twelve, the first greater", twelve, with(0, 6), true},
		{"twelve, the last greater", twelve, with(11, 399), true},
		{"twelve, the last of one and the first of the other one", with(11, 399), with(0, 6), true},
	} {
		if got, turned := impl.TapeLess(c.a, c.b), impl.TapeLess(c.b, c.a); got != c.less || turned {
			t.Errorf("%s: TapeLess: got %v, and %v the other way round", c.what, got, turned)
		}
		if ownLess(c.a, c.b) != c.less || ownLess(c.b, c.a) {
			t.Errorf("%s: the test's own rule tells something else", c.what)
		}
	}
}

func TestTapeLessWrongTapes(t *testing.T) {
	right := [][]int64{nil, numbers(0), numbers(399), numbers(0, 0, 0), slices.Repeat(numbers(399), maxTape)}
	for _, wrong := range wrongTapes() {
		about := fmt.Sprintf("%.60s of %d", fmt.Sprint(wrong), len(wrong))
		for _, tape := range right {
			if impl.TapeLess(wrong, tape) || impl.TapeLess(tape, wrong) {
				t.Errorf("TapeLess of %s and %v: got true", about, tape)
			}
		}
		for _, other := range wrongTapes() {
			if impl.TapeLess(wrong, other) {
				t.Errorf("TapeLess of %s and another wrong one: got true", about)
			}
		}
	}
}

// Of two right tapes that are not the same just one is less.
func TestPromise11JustOneIsLess(t *testing.T) {
	tapes := append(allTapes(4, 0, 1, 10, 399), rightTapes(rand.New(rand.NewSource(11)), 500)...)
	lengths := map[bool]int{}
	for _, a := range tapes {
		for _, b := range tapes {
			less, more := impl.TapeLess(a, b), impl.TapeLess(b, a)
			if same := slices.Equal(a, b); less && more || same == (less || more) {
				t.Fatalf("TapeLess of %v and %v: got %v, and %v the other way round", a, b, less, more)
			}
			if len(a) > len(b) && less {
				t.Fatalf("TapeLess of %v and %v: got true", a, b)
			}
			lengths[len(a) == len(b)]++
		}
	}
	if lengths[true] < 10000 || lengths[false] < 10000 {
		t.Errorf("too few of some: of the same length %v", lengths)
	}
	byDigits := slices.Clone(tapes)
	slices.SortFunc(byDigits, func(a, b []int64) int {
		switch {
		case ownLess(a, b):
			return -1
		case ownLess(b, a):
			return 1
		}
		return 0
	})
	// Each is less than all greater ones, so what stands far behind is too.
	for i := range byDigits {
		for _, far := range []int{1, 2, 30, 300} {
			if i+far < len(byDigits) && impl.TapeLess(byDigits[i], byDigits[i+far]) == slices.Equal(byDigits[i], byDigits[i+far]) {
				t.Errorf("TapeLess of %v and %v is wrong", byDigits[i], byDigits[i+far])
			}
		}
	}
}

func TestSmallerOf(t *testing.T) {
	for _, c := range []struct {
		tape []int64
		want [][]int64
	}{
		{nil, nil},
		{numbers(), nil},
		{numbers(0), [][]int64{{}}},
		{numbers(1), [][]int64{{}, {0}}},
		{numbers(2), [][]int64{{}, {0}, {1}}},
		{numbers(3), [][]int64{{}, {0}, {1}, {2}}},
		{numbers(4), [][]int64{{}, {0}, {2}, {3}}},
		{numbers(99), [][]int64{{}, {0}, {49}, {98}}},
		{numbers(100), [][]int64{{}, {0}, {50}, {99}}},
		{numbers(398), [][]int64{{}, {0}, {199}, {397}}},
		{numbers(399), [][]int64{{}, {0}, {199}, {398}}},
		{numbers(0, 0), [][]int64{{0}, {0}}},
		{numbers(5, 0), [][]int64{{0}, {5}, {0, 0}, {2, 0}, {4, 0}}},
		{numbers(0, 5), [][]int64{{5}, {0}, {0, 0}, {0, 2}, {0, 4}}},
		{numbers(1, 1), [][]int64{{1}, {1}, {0, 1}, {1, 0}}},
		{numbers(2, 2), [][]int64{{2}, {2}, {0, 2}, {2, 0}, {1, 2}, {2, 1}}},
		{numbers(3, 3), [][]int64{{3}, {3}, {0, 3}, {3, 0}, {1, 3}, {3, 1}, {2, 3}, {3, 2}}},
		{numbers(0, 1, 2, 3), [][]int64{
			{1, 2, 3}, {0, 2, 3}, {0, 1, 3}, {0, 1, 2},
			{0, 0, 2, 3}, {0, 1, 0, 3}, {0, 1, 2, 0},
			{0, 1, 1, 3}, {0, 1, 2, 1},
			{0, 1, 2, 2},
		}},
		{numbers(399, 0, 100), [][]int64{
			{0, 100}, {399, 100}, {399, 0},
			{0, 0, 100}, {399, 0, 0},
			{199, 0, 100}, {399, 0, 50},
			{398, 0, 100}, {399, 0, 99},
		}},
		{make([]int64, 12), slices.Repeat([][]int64{make([]int64, 11)}, 12)},
		{numbers(0, 0, 0, 0, 0, 2, 0, 0, 0, 0, 0, 9), append(slices.Concat(
			slices.Repeat([][]int64{{0, 0, 0, 0, 2, 0, 0, 0, 0, 0, 9}}, 5),
			[][]int64{{0, 0, 0, 0, 0, 0, 0, 0, 0, 0, 9}},
			slices.Repeat([][]int64{{0, 0, 0, 0, 0, 2, 0, 0, 0, 0, 9}}, 5),
			[][]int64{{0, 0, 0, 0, 0, 2, 0, 0, 0, 0, 0}}),
			numbers(0, 0, 0, 0, 0, 0, 0, 0, 0, 0, 0, 9), numbers(0, 0, 0, 0, 0, 2, 0, 0, 0, 0, 0, 0),
			numbers(0, 0, 0, 0, 0, 1, 0, 0, 0, 0, 0, 9), numbers(0, 0, 0, 0, 0, 2, 0, 0, 0, 0, 0, 4),
			numbers(0, 0, 0, 0, 0, 2, 0, 0, 0, 0, 0, 8))},
	} {
		if got := impl.SmallerOf(c.tape); !sameTapes(got, c.want) {
			t.Errorf("SmallerOf(%v): got %v, want %v", c.tape, got, c.want)
		}
		if own, _ := ownSmaller(c.tape); !sameTapes(own, c.want) {
			t.Errorf("SmallerOf(%v): the test's own rule tells %v", c.tape, own)
		}
	}
	if got := impl.SmallerOf(slices.Repeat(numbers(3), maxTape)); len(got) != 4*maxTape {
		t.Errorf("SmallerOf of twelve: got %d tapes", len(got))
	}
	for _, wrong := range wrongTapes() {
		before := slices.Clone(wrong)
		if got := impl.SmallerOf(wrong); len(got) != 0 || !slices.Equal(wrong, before) {
			t.Errorf("SmallerOf of %.60s: got %v", fmt.Sprint(wrong), got)
		}
	}
}

// Each smaller one of a tape is right, and less.
func TestPromise11SmallerOnesAreRightAndLess(t *testing.T) {
	tapes := append(allTapes(3, 0, 1, 2, 3, 99, 100, 398, 399), rightTapes(rand.New(rand.NewSource(12)), 2000)...)
	for number := range int64(400) {
		tapes = append(tapes, numbers(number), numbers(399-number, 0, number))
	}
	made := [4]int{}
	for _, tape := range tapes {
		room := append(slices.Clone(tape), 77, 78)
		laid, before := room[:len(tape)], slices.Clone(room)
		smaller := impl.SmallerOf(laid)
		want, kinds := ownSmaller(tape)
		if !sameTapes(smaller, want) {
			t.Fatalf("SmallerOf(%v): got %v, want %v", tape, smaller, want)
		}
		for _, one := range smaller {
			if !impl.TapeRight(one) || !impl.TapeLess(one, tape) || impl.TapeLess(tape, one) || !ownLess(one, tape) {
				t.Fatalf("SmallerOf(%v): %v is not right, or not less", tape, one)
			}
		}
		for _, kind := range kinds {
			made[kind]++
		}
		if !slices.Equal(room, before) {
			t.Fatalf("SmallerOf(%v): what is handed in, or what is behind it, has been changed", tape)
		}
	}
	if slices.Min(made[:]) < 2000 {
		t.Errorf("too few of some kinds: %v", made)
	}
}

func TestSmallerOfNewMemory(t *testing.T) {
	for _, tape := range append(rightTapes(rand.New(rand.NewSource(13)), 200), numbers(3), numbers(0, 0), slices.Repeat(numbers(3), maxTape)) {
		room := append(slices.Clone(tape), 77, 78)
		before := slices.Clone(room)
		got, other := impl.SmallerOf(room[:len(tape)]), impl.SmallerOf(room[:len(tape)])
		kept := cloneTapes(got)
		for i := range got {
			// What is behind a list in its memory is its own as well.
			full := got[i][:cap(got[i])]
			for k := range full {
				full[k] = -9
			}
			got[i] = append(got[i], -9)
			if !sameTapes(got[i+1:], kept[i+1:]) || !sameTapes(other, kept) || !slices.Equal(room, before) {
				t.Fatalf("SmallerOf(%v): the tape %d shares its memory", tape, i)
			}
		}
		if again := impl.SmallerOf(room[:len(tape)]); !sameTapes(again, kept) {
			t.Errorf("SmallerOf(%v): asked once more, got %v", tape, again)
		}
	}
}

// holdsShrink asks Shrink and Least, and whether what is handed in stays as it is.
func holdsShrink(t *testing.T, what string, p impl.Play, tape []int64) (impl.ShrinkOut, [4]int64) {
	t.Helper()
	laid, rooms := playInRooms(p)
	before := copyOfPlay(rooms)
	tapeRoom := append(slices.Clone(tape), 77)
	laidTape, tapeBefore := tapeRoom[:len(tape)], slices.Clone(tapeRoom)
	got, least := impl.Shrink(laid, laidTape), impl.Least(laid, laidTape)
	want, went := ownShrink(p, tape)
	wantShrink(t, what+": "+shownPlay(p, tape), got, want)
	if least != (want.Code == impl.OK && want.Steps == 0) {
		t.Errorf("%s: Least: got %v: %s", what, least, shownPlay(p, tape))
	}
	if !samePlay(rooms, before) || !slices.Equal(tapeRoom, tapeBefore) {
		t.Errorf("%s: what is handed in, or what is behind it, has been changed: %s", what, shownPlay(p, tape))
	}
	return got, went
}

// holdsPromise12: the shortest talk of a tape that fails fails too, is no greater, and none of the smaller ones of it fails.
func holdsPromise12(t *testing.T, what string, p impl.Play, tape []int64) (impl.ShrinkOut, [4]int64) {
	t.Helper()
	out, went := holdsShrink(t, what, p, tape)
	if !impl.Fails(p, tape) {
		if out.Code == impl.OK || len(out.Tape) != 0 || out.Steps != 0 || impl.Least(p, tape) {
			t.Errorf("%s: it does not fail, got %+v of %s", what, out, shownPlay(p, tape))
		}
		return out, went
	}
	about := fmt.Sprintf("%s: %+v of %s", what, out, shownPlay(p, tape))
	if out.Code != impl.OK || !impl.TapeRight(out.Tape) || !impl.Fails(p, out.Tape) {
		t.Errorf("%s: it does not fail", about)
	}
	if impl.TapeLess(tape, out.Tape) || impl.TapeLess(out.Tape, tape) != (out.Steps > 0) || slices.Equal(tape, out.Tape) != (out.Steps == 0) {
		t.Errorf("%s: it is greater, or as many Steps can't be", about)
	}
	for _, one := range impl.SmallerOf(out.Tape) {
		if impl.Fails(p, one) {
			t.Errorf("%s: %v is smaller, and fails too", about, one)
		}
	}
	if !impl.Least(p, out.Tape) || impl.Least(p, tape) != (out.Steps == 0) {
		t.Errorf("%s: Least tells something else", about)
	}
	wantShrink(t, about+": shrunk again", impl.Shrink(p, out.Tape), impl.ShrinkOut{Tape: out.Tape})
	wantShrink(t, about+": walked down", walkedDown(p, tape), out)
	return out, went
}

// zzzDesk says zzz where its part says stop: broken at 3, 9, 15 .. 99.
func zzzDesk() impl.Play {
	p := truePlay(impl.DeskPlan(), "a")
	p.Table.Edges[1].Label = "zzz"
	return p
}

func TestPromise12Steps(t *testing.T) {
	once, round, both := readPlan(t, onceText), readPlan(t, roundText), readPlan(t, bothText)
	desk := zzzDesk()
	talks := playOf(once, "a", machineRead(t, "b!{zzz(none).end}")) // broken at each even number
	answers := playOf(once, "b", machineRead(t, "a!{l(none).end}")) // broken at each odd number
	again := playOf(once, "b", machineRead(t, "rec x.a?{l(none).x}"))
	twice := playOf(both, "a", machineRead(t, "rec x.b?{m(int).x}")) // broken where it hears m once more
	turned := playOf(round, "b", machineRead(t, "rec x.a?{hi(int).x,no(none).x}"))
	none := [4]int64{}
	for _, c := range []struct {
		what string
		p    impl.Play
		tape []int64
		want []int64
		went [4]int64
	}{
		{"already the least", desk, numbers(3), numbers(3), none},
		{"the least, though a lesser one fails too", desk, numbers(9), numbers(9), none},
		{"the least, the greatest number that is broken", desk, numbers(99), numbers(99), none},
		{"one left out", desk, numbers(1, 9), numbers(9), [4]int64{byLeaving: 1}},
		{"all but one left out", desk, numbers(1, 9, 2, 1), numbers(9), [4]int64{byLeaving: 3}},
		{"of two that are broken the first one is left out", desk, numbers(3, 9), numbers(9), [4]int64{byLeaving: 1}},
		{"twelve that are broken", desk, slices.Repeat(numbers(15), maxTape), numbers(15), [4]int64{byLeaving: 11}},
		{"once round: no one of the way there can be left out alone", desk, numbers(0, 1, 1, 2, 2, 1, 1, 0, 3, 1, 1, 2), numbers(0, 1, 1, 2, 2, 1, 1, 0, 3), [4]int64{byLeaving: 3}},
		{"what is behind the one that is broken", desk, numbers(3, 399, 100, 0), numbers(3), [4]int64{byLeaving: 3}},
		{"the least of all", talks, numbers(0), numbers(0), none},
		{"0 in its place", talks, numbers(8), numbers(0), [4]int64{byNought: 1}},
		{"0 in the place of 1 is another role", answers, numbers(1), numbers(1), none},
		{"0 in its place, not half", talks, numbers(4), numbers(0), [4]int64{byNought: 1}},
		{"one left out, then 0 in the place of the other", talks, numbers(98, 96), numbers(0), [4]int64{byLeaving: 1, byNought: 1}},
		{"half", answers, numbers(3), numbers(1), [4]int64{byHalf: 1}},
		{"half of half", answers, numbers(7), numbers(1), [4]int64{byHalf: 2}},
		{"half, down to where it is even", answers, numbers(99), numbers(49), [4]int64{byHalf: 1}},
		{"not half, nor one less", answers, numbers(5), numbers(5), none},
		{"one less, three times", twice, numbers(1, 203, 0, 0), numbers(1, 200, 0, 0), [4]int64{byOne: 3}},
		{"one less, 99 times", twice, numbers(1, 299, 0, 0), numbers(1, 200, 0, 0), [4]int64{byOne: 99}},
		{"doubled: the least", twice, numbers(1, 200, 0, 0), numbers(1, 200, 0, 0), none},
		{"all four kinds", again, numbers(9, 4, 203, 3, 7), numbers(0, 200, 1, 1), [4]int64{byLeaving: 1, byNought: 1, byHalf: 3, byOne: 3}},
		{"swapped: the least, though 300 in that place fails too", turned, numbers(0, 2, 302, 1, 1), numbers(0, 2, 302, 1, 1), none},
		{"swapped: by none between", turned, numbers(0, 2, 300, 3, 3), numbers(0, 2, 300, 1, 1), [4]int64{byHalf: 2}},
	} {
		steps := c.went[0] + c.went[1] + c.went[2] + c.went[3]
		wantShrink(t, c.what, impl.Shrink(c.p, c.tape), impl.ShrinkOut{Tape: c.want, Steps: steps})
		if least := impl.Least(c.p, c.tape); least != (steps == 0) {
			t.Errorf("%s: Least: got %v", c.what, least)
		}
		if _, went := holdsPromise12(t, c.what, c.p, c.tape); went != c.went {
			t.Errorf("%s: it goes down by %v, want %v", c.what, went, c.went)
		}
	}
}

func TestShrinkOfWhatDoesNotFail(t *testing.T) {
	desk := zzzDesk()
	for _, c := range []struct {
		what string
		p    impl.Play
		tape []int64
	}{
		{"no number", desk, nil},
		{"an empty tape", desk, numbers()},
		{"the other choice", desk, numbers(0)},
		{"others alone", desk, numbers(1, 2, 4, 5)},
		{"a fault alone", desk, numbers(103, 203, 303)},
		{"a whole tape", desk, slices.Repeat(numbers(0, 1, 2), 4)},
		{"a smaller one fails: 4 and 3", desk, numbers(4)},
		{"a smaller one fails: 7 and 3", desk, numbers(7)},
		{"a smaller one fails: one left out", desk, numbers(0, 3)},
		{"its own part", truePlay(impl.DeskPlan(), "a"), numbers(3)},
		{"its own part, to the end", truePlay(impl.DeskPlan(), "c"), numbers(3, 1, 1, 2)},
	} {
		wantShrink(t, c.what, impl.Shrink(c.p, c.tape), impl.ShrinkOut{Code: impl.ErrNone})
		if impl.Least(c.p, c.tape) {
			t.Errorf("%s: Least: got true", c.what)
		}
		holdsPromise12(t, c.what, c.p, c.tape)
	}
}

// Which fault is told, and that nothing is told beside it: also where a part of the tape could be played, and would be broken.
func TestShrinkCodes(t *testing.T) {
	right := zzzDesk()
	nobody := playOf(right.Plan, "d", right.Table)
	clash := playOf(readPlan(t, clashText), "a", right.Table)
	table := playOf(right.Plan, "a", impl.Machine{})
	for _, c := range []struct {
		what string
		p    impl.Play
		tape []int64
		code int64
	}{
		{"it does not fail", right, numbers(0), impl.ErrNone},
		{"a number below 0", right, numbers(-1), impl.ErrForm},
		{"a number of 400", right, numbers(400), impl.ErrForm},
		{"a number of 400 behind what is broken", right, numbers(3, 400), impl.ErrForm},
		{"a number below 0 ahead of what is broken", right, numbers(-1, 3), impl.ErrForm},
		{"13 numbers", right, make([]int64, 13), impl.ErrForm},
		{"13 that would be broken", right, slices.Repeat(numbers(3), 13), impl.ErrForm},
		{"MaxList numbers", right, slices.Repeat(numbers(3), impl.MaxList), impl.ErrForm},
		{"MaxList and one", right, slices.Repeat(numbers(3), impl.MaxList+1), impl.ErrSize},
		{"MaxList and one that are wrong", right, slices.Repeat(numbers(-1), impl.MaxList+1), impl.ErrSize},
		{"nobody", nobody, numbers(3), impl.ErrForm},
		{"nobody, and no number", nobody, nil, impl.ErrForm},
		{"nobody, and a wrong number", nobody, numbers(400), impl.ErrForm},
		{"nobody, and MaxList numbers", nobody, make([]int64, impl.MaxList), impl.ErrForm},
		{"nobody, and MaxList and one", nobody, make([]int64, impl.MaxList+1), impl.ErrSize},
		{"not Sound", clash, numbers(3), impl.ErrForm},
		{"not Sound, and MaxList and one", clash, make([]int64, impl.MaxList+1), impl.ErrSize},
		{"no Table", table, numbers(3), impl.ErrForm},
		{"no Table, and MaxList and one", table, make([]int64, impl.MaxList+1), impl.ErrSize},
		{"nothing at all", impl.Play{}, nil, impl.ErrForm},
		{"nothing at all, and far too many", impl.Play{}, make([]int64, 5000), impl.ErrSize},
		{"too long a plan", playOf(slices.Repeat(right.Plan, 100), "a", right.Table), numbers(3), impl.ErrForm},
		{"too long a Role", playOf(right.Plan, strings.Repeat("a", impl.MaxBytes+1), right.Table), numbers(3), impl.ErrForm},
		{"too long a Table", playOf(right.Plan, "a", circle(impl.MaxList+1)), numbers(3), impl.ErrForm},
	} {
		wantShrink(t, c.what, impl.Shrink(c.p, c.tape), impl.ShrinkOut{Code: c.code})
		if impl.Least(c.p, c.tape) {
			t.Errorf("%s: Least: got true", c.what)
		}
		holdsShrink(t, c.what, c.p, c.tape)
	}
}

// Each edge of what a right Play is, with tapes that are right and wrong.
func TestShrinkRightPlays(t *testing.T) {
	codes := map[int64]int{}
	for _, c := range somePlays(t) {
		for _, tape := range append(tapesNearby(), wrongTapes()...) {
			out, _ := holdsShrink(t, c.what, c.p, tape)
			codes[out.Code]++
			if out.Code == impl.OK && !c.right {
				t.Errorf("%s: got %+v", c.what, out)
			}
		}
	}
	if codes[impl.OK] < 10 || codes[impl.ErrForm] < 100 || codes[impl.ErrSize] < 100 || codes[impl.ErrNone] < 100 {
		t.Errorf("too few of some codes: %v", codes)
	}
}

// wideTape has greater numbers than there need be: another choice of the same role, or another Msg.
func wideTape(r *rand.Rand, tape []int64, roles int) []int64 {
	wide := slices.Clone(tape)
	for i, number := range wide {
		if number >= 100 {
			wide[i] = number/100*100 + int64(r.Intn(100))
			continue
		}
		for range r.Intn(20) {
			if wide[i]+2*int64(roles) < 100 {
				wide[i] += 2 * int64(roles)
			}
		}
	}
	return wide
}

// tapesOf are drawn for a role of a plan: any, and such that let it come far.
func tapesOf(r *rand.Rand, plan []impl.Node, role string) [][]int64 {
	count := len(ownRoles(plan))
	tapes := [][]int64{anyTape(r), goodTape(r, plan, false), crowdedTape(r, plan, role)}
	for range 3 {
		tapes = append(tapes, wideTape(r, goodTape(r, plan, true), count), wideTape(r, crowdedTape(r, plan, role), count))
	}
	return tapes
}

func TestPromise12ManyPlays(t *testing.T) {
	r := rand.New(rand.NewSource(12))
	codes, lengths, went := map[int64]int{}, map[int]int{}, [4]int64{}
	for _, plan := range soundPlans(150) {
		for _, role := range ownRoles(plan) {
			own := truePlay(plan, role).Table
			for range 2 {
				p := playOf(plan, role, turnedTable(r, own, role))
				switch r.Intn(8) {
				case 0:
					p.Table = anyMachine(r)
				case 1, 2:
					p.Table = greedyTable(r, own)
				}
				for _, tape := range tapesOf(r, plan, role) {
					// Most tapes do not fail: of these few are enough.
					if !impl.Fails(p, tape) && r.Intn(10) > 0 {
						continue
					}
					out, by := holdsPromise12(t, "a turned part", p, tape)
					codes[out.Code]++
					if out.Code == impl.OK {
						lengths[len(out.Tape)]++
					}
					for kind, steps := range by {
						went[kind] += steps
					}
				}
			}
			out, _ := holdsPromise12(t, "its own part", truePlay(plan, role), crowdedTape(r, plan, role))
			if out.Code != impl.ErrNone {
				t.Errorf("its own part: got %+v of %q as %s", out, drawn(plan), role)
			}
		}
	}
	if codes[impl.OK] < 500 || codes[impl.ErrNone] < 300 || len(codes) != 2 || len(lengths) < 5 || slices.Min(went[:]) < 100 {
		t.Errorf("too few of some: codes %v, lengths %v, steps by kind %v", codes, lengths, went)
	}
}

// All short tapes of few numbers: the least ones are just those of which Least tells it.
func TestPromise12EveryShortTape(t *testing.T) {
	failing, least := 0, map[int]int{}
	for _, c := range []struct {
		plan  string
		role  string
		part  string
		tapes [][]int64
	}{
		{onceText, "a", "b!{zzz(none).end}", allTapes(3, 0, 1, 2, 3, 5, 100, 201, 303)},
		{onceText, "b", "rec x.a?{l(none).x}", allTapes(4, 0, 1, 3, 100, 200, 201)},
		{onceText, "b", "a!{l(none).end}", allTapes(3, 0, 1, 2, 3, 7, 99, 199, 399)},
		{roundText, "a", "b!{hi(int).b!{hi(int).end,no(text).end}}", allTapes(4, 0, 1, 2, 6, 100)},
		{roundText, "b", "rec x.a?{hi(int).x,no(none).x}", allTapes(5, 0, 1, 2, 300)},
		{roundText, "b", "rec x.a?{hi(int).x,no(none).x}", allTapes(4, 1, 2, 3, 200, 202)},
	} {
		p := playOf(readPlan(t, c.plan), c.role, machineRead(t, c.part))
		for _, tape := range c.tapes {
			out, _ := holdsPromise12(t, c.part, p, tape)
			if out.Code != impl.OK {
				continue
			}
			failing++
			if out.Steps == 0 {
				least[len(tape)]++
			}
		}
	}
	if failing < 1000 || len(least) < 3 {
		t.Errorf("too few of some: %d that fail, of these %v are the least", failing, least)
	}
}

func TestShrinkNewMemory(t *testing.T) {
	desk := zzzDesk()
	for _, tape := range [][]int64{{3}, {99}, {1, 9}, {1, 9, 2, 1}, {0, 1, 1, 2, 2, 1, 1, 0, 3, 1, 1, 2}} {
		room := append(slices.Clone(tape), 77)
		before, playBefore := slices.Clone(room), copyOfPlay(desk)
		first := impl.Shrink(desk, room[:len(tape)])
		kept := slices.Clone(first.Tape)
		for range 3 {
			next := impl.Shrink(desk, room[:len(tape)])
			wantShrink(t, fmt.Sprint(tape, ", asked once more"), next, impl.ShrinkOut{Tape: kept, Steps: first.Steps})
			clear(next.Tape[:cap(next.Tape)])
		}
		if !slices.Equal(first.Tape, kept) || !slices.Equal(room, before) || !samePlay(desk, playBefore) {
			t.Errorf("Shrink of %v: two answers share their memory, or one with an argument", tape)
		}
	}
}
