package tests

import (
	"encoding/binary"
	"hash/crc32"
	"math"
	"math/rand"
	"regexp"
	"slices"
	"strconv"
	"strings"
	"testing"

	"loop.example/g00574/impl"
)

var ownName = regexp.MustCompile(`\A[a-z][a-z0-9_]{0,19}\z`)

// onWay makes each text a Msg: its first letter is From, the second one To, what is left the Label, and of that the first letter tells the Sort.
func onWay(texts ...string) []impl.Msg {
	var l []impl.Msg
	for _, t := range texts {
		l = append(l, impl.Msg{From: t[:1], To: t[1:2], Label: t[2:], Sort: int64(t[2]-'k') % 3})
	}
	return l
}

func msgOf(text string) impl.Msg {
	return onWay(text)[0]
}

// pairs makes that many Msgs, no two of them between the same two.
func pairs(count int) []impl.Msg {
	var l []impl.Msg
	for i := range count {
		l = append(l, impl.Msg{From: "f" + strconv.Itoa(i/7), To: "t" + strconv.Itoa(i%7), Label: "l" + strconv.Itoa(i), Sort: int64(i % 3)})
	}
	return l
}

// queues makes full queues between that many twos, one Msg of each after the other.
func queues(count int) []impl.Msg {
	return slices.Repeat(pairs(count), impl.MaxQueue)
}

func ownMsgRight(m impl.Msg) bool {
	for _, name := range []string{m.From, m.To, m.Label} {
		if !ownName.MatchString(name) {
			return false
		}
	}
	return m.From != m.To && slices.Contains([]int64{impl.SoNone, impl.SoInt, impl.SoText}, m.Sort)
}

func isBetween(m impl.Msg, from string, to string) bool {
	return m.From == from && m.To == to
}

// ownPlaces tells where the Msgs between these two are.
func ownPlaces(l []impl.Msg, from string, to string) []int {
	var places []int
	for i, m := range l {
		if isBetween(m, from, to) {
			places = append(places, i)
		}
	}
	return places
}

func ownNetRight(l []impl.Msg) bool {
	if len(l) > 36 {
		return false
	}
	for _, m := range l {
		if !ownMsgRight(m) || len(ownPlaces(l, m.From, m.To)) > 3 {
			return false
		}
	}
	return true
}

func ownPut(l []impl.Msg, m impl.Msg) impl.NetOut {
	if len(l) > 400 {
		return impl.NetOut{Code: impl.ErrSize}
	}
	if !ownNetRight(l) || !ownMsgRight(m) {
		return impl.NetOut{Code: impl.ErrForm}
	}
	if len(l) == 36 || len(ownPlaces(l, m.From, m.To)) == 3 {
		return impl.NetOut{Code: impl.ErrFull}
	}
	return impl.NetOut{Net: slices.Concat(l, []impl.Msg{m})}
}

func ownSee(l []impl.Msg, from string, to string) impl.NetOut {
	if len(l) > 400 || len(from) > 8000 || len(to) > 8000 {
		return impl.NetOut{Code: impl.ErrSize}
	}
	if !ownNetRight(l) || !ownName.MatchString(from) || !ownName.MatchString(to) {
		return impl.NetOut{Code: impl.ErrForm}
	}
	places := ownPlaces(l, from, to)
	if len(places) == 0 {
		return impl.NetOut{Code: impl.ErrNone}
	}
	return impl.NetOut{Net: l, Msg: l[places[0]]}
}

func ownTake(l []impl.Msg, from string, to string) impl.NetOut {
	out := ownSee(l, from, to)
	if out.Code == impl.OK {
		at := ownPlaces(l, from, to)[0]
		out.Net = slices.Delete(slices.Clone(l), at, at+1)
	}
	return out
}

func ownFault(l []impl.Msg, kind int64, number int64) impl.NetOut {
	if len(l) > 400 {
		return impl.NetOut{Code: impl.ErrSize}
	}
	if !ownNetRight(l) || !slices.Contains([]int64{1, 2, 3}, kind) || number < 0 || number > 1000000 {
		return impl.NetOut{Code: impl.ErrForm}
	}
	if len(l) == 0 {
		return impl.NetOut{Code: impl.ErrNone}
	}
	at := int(number) % len(l)
	places := ownPlaces(l, l[at].From, l[at].To)
	switch kind {
	case 1:
		return impl.NetOut{Net: slices.Delete(slices.Clone(l), at, at+1)}
	case 2:
		if len(l) == 36 || len(places) == 3 {
			return impl.NetOut{Code: impl.ErrFull}
		}
		return impl.NetOut{Net: slices.Insert(slices.Clone(l), at, l[at])}
	}
	if at == places[len(places)-1] {
		return impl.NetOut{Code: impl.ErrNone}
	}
	next := places[slices.Index(places, at)+1]
	turned := slices.Clone(l)
	turned[at], turned[next] = l[next], l[at]
	return impl.NetOut{Net: turned}
}

func ownSeal(text string) string {
	return string(binary.LittleEndian.AppendUint32([]byte(text), crc32.ChecksumIEEE([]byte(text))))
}

// msgBy writes the bytes of a Msg with its numbers, those of lengths among them, and its seal put as it is told.
func msgBy(m impl.Msg, put func(n int64) string, seal func(text string) string) string {
	text := ""
	for _, name := range []string{m.From, m.To, m.Label} {
		text += put(int64(len(name))) + name
	}
	text = seal(text + put(m.Sort))
	return put(int64(len(text))) + text
}

func netBy(l []impl.Msg, put func(n int64) string, seal func(text string) string) string {
	text := put(int64(len(l)))
	for _, m := range l {
		text += msgBy(m, put, seal)
	}
	return text
}

// wantNet holds an answer against the one that is due, and looks whether it shares memory with what was handed in.
func wantNet(t *testing.T, what string, got impl.NetOut, want impl.NetOut, texts ...string) {
	t.Helper()
	if got.Code != want.Code || got.Msg != want.Msg || !slices.Equal(got.Net, want.Net) {
		t.Errorf("%s: got %v, want %v", what, got, want)
	}
	for _, m := range append([]impl.Msg{got.Msg}, got.Net...) {
		for _, own := range []string{m.From, m.To, m.Label} {
			for _, text := range texts {
				if sameMemory(own, text) {
					t.Errorf("%s: %q shares memory with what is handed in", what, own)
				}
			}
		}
	}
}

// inRoom lays a list into a longer one: who puts something right behind it changes what is not their own.
func inRoom(l []impl.Msg) (list []impl.Msg, room []impl.Msg) {
	room = append(slices.Clone(l), onWay("yzstay", "zystay", "yzstay")...)
	return room[:len(l)], room
}

// textsOf makes new texts of those of a list, and tells them all.
func textsOf(l []impl.Msg) []string {
	var texts []string
	for i := range l {
		l[i].From, l[i].To, l[i].Label = strings.Clone(l[i].From), strings.Clone(l[i].To), strings.Clone(l[i].Label)
		texts = append(texts, l[i].From, l[i].To, l[i].Label)
	}
	return texts
}

// holdsNet asks each call that takes a list, with much that may come beside it, and whether the list stays as it is.
func holdsNet(t *testing.T, what string, l []impl.Msg) {
	t.Helper()
	list, room := inRoom(l)
	before := slices.Clone(room)
	right := ownNetRight(l)
	if got := impl.NetRight(list); got != right {
		t.Errorf("%s: NetRight(%v): got %v", what, l, got)
	}
	text := netBy(l, varint, ownSeal)
	if right {
		if got := impl.NetBytes(list); got != text {
			t.Errorf("%s: NetBytes(%v): got %q, want %q", what, l, got, text)
		}
		wantNet(t, what+": NetRead", impl.NetRead(text), impl.NetOut{Net: l})
	} else {
		if got := impl.NetBytes(list); got != "" {
			t.Errorf("%s: NetBytes(%v): got %q", what, l, got)
		}
		code := int64(impl.ErrSyntax)
		if len(text) > 8000 {
			code = impl.ErrSize
		}
		wantNet(t, what+": NetRead", impl.NetRead(text), impl.NetOut{Code: code})
	}
	holdsPut(t, what, list)
	holdsTwo(t, what, list)
	holdsFaults(t, what, list)
	if !slices.Equal(room, before) {
		t.Errorf("%s: the list, or what is behind it, has been changed: %v, then %v", what, before, room)
	}
}

func holdsPut(t *testing.T, what string, l []impl.Msg) {
	t.Helper()
	put := onWay("abl", "abm", "bal", "acn", "xyl")
	put = append(put, impl.Msg{}, impl.Msg{From: "a", To: "a", Label: "l"}, impl.Msg{From: "a", To: "b", Label: "l", Sort: 3})
	if len(l) > 0 {
		put = append(put, l[0], l[len(l)-1])
	}
	for _, m := range put {
		wantNet(t, what+": NetPut", impl.NetPut(l, m), ownPut(l, m))
	}
}

func holdsTwo(t *testing.T, what string, l []impl.Msg) {
	t.Helper()
	names := []string{"a", "b", "c", "zz", "", "A", "a-"}
	if len(l) > 0 {
		names = append(names, l[0].From, l[0].To, l[len(l)-1].From, l[len(l)-1].To)
	}
	for _, from := range names {
		for _, to := range names {
			wantNet(t, what+": NetSee of "+from+" and "+to, impl.NetSee(l, from, to), ownSee(l, from, to))
			wantNet(t, what+": NetTake of "+from+" and "+to, impl.NetTake(l, from, to), ownTake(l, from, to))
		}
	}
}

func holdsFaults(t *testing.T, what string, l []impl.Msg) {
	t.Helper()
	numbers := []int64{-1, 999999, 1000000, 1000001, math.MinInt64, math.MaxInt64}
	for i := range int64(2*len(l) + 2) {
		numbers = append(numbers, i)
	}
	for _, kind := range []int64{impl.FtDrop, impl.FtTwice, impl.FtSwap, 0, 4, -1, -3, math.MinInt64, math.MaxInt64} {
		for _, number := range numbers {
			about := what + ": NetFault of " + strconv.FormatInt(kind, 10) + " and " + strconv.FormatInt(number, 10)
			wantNet(t, about, impl.NetFault(l, kind, number), ownFault(l, kind, number))
		}
	}
}

func TestPromise7MsgRight(t *testing.T) {
	good := impl.Msg{From: "a", To: "b", Label: "l"}
	turn := func(change func(m *impl.Msg)) impl.Msg {
		m := good
		change(&m)
		return m
	}
	long, tooLong := strings.Repeat("n", 20), strings.Repeat("n", 21)
	for _, c := range []struct {
		name  string
		right bool
	}{
		{"z", true}, {"z9_", true}, {"z_", true}, {"zz", true}, {long, true}, {"end", true}, {"rec", true},
		{"", false}, {tooLong, false}, {"9", false}, {"_", false}, {"9z", false}, {"_z", false}, {"Z", false}, {"zZ", false},
		{"z ", false}, {" z", false}, {"z\n", false}, {"z-", false}, {"z\x00", false}, {"zé", false}, {"z{", false}, {"z`", false},
		{strings.Repeat("n", impl.MaxBytes+1), false},
	} {
		for where, m := range map[string]impl.Msg{
			"From":  turn(func(m *impl.Msg) { m.From = c.name }),
			"To":    turn(func(m *impl.Msg) { m.To = c.name }),
			"Label": turn(func(m *impl.Msg) { m.Label = c.name }),
		} {
			wantMsgRight(t, where+" is "+c.name, m, c.right)
		}
	}
	for sort, right := range map[int64]bool{impl.SoNone: true, impl.SoInt: true, impl.SoText: true, 3: false, -1: false, 4: false, math.MinInt64: false, math.MaxInt64: false} {
		wantMsgRight(t, "a Sort", turn(func(m *impl.Msg) { m.Sort = sort }), right)
	}
	wantMsgRight(t, "From and To the same", impl.Msg{From: "a", To: "a", Label: "l"}, false)
	wantMsgRight(t, "From and To the same, and long", impl.Msg{From: long, To: strings.Clone(long), Label: "l"}, false)
	wantMsgRight(t, "From and To one letter unlike", impl.Msg{From: long, To: long[1:] + "m", Label: "l"}, true)
	wantMsgRight(t, "To begins From", impl.Msg{From: "ab", To: "a", Label: "l"}, true)
	wantMsgRight(t, "all are the same but To", impl.Msg{From: "a", To: "b", Label: "a"}, true)
	wantMsgRight(t, "all are the same but From", impl.Msg{From: "a", To: "b", Label: "b"}, true)
	wantMsgRight(t, "nothing", impl.Msg{}, false)
}

func wantMsgRight(t *testing.T, what string, m impl.Msg, right bool) {
	t.Helper()
	if ownMsgRight(m) != right {
		t.Fatalf("%.60s: the rules asked one by one say something else of %v", what, m)
	}
	if got := impl.MsgRight(m); got != right {
		t.Errorf("%.60s: MsgRight(%v): got %v", what, m, got)
	}
	if got := impl.NetRight([]impl.Msg{m}); got != right {
		t.Errorf("%.60s: NetRight of it alone: got %v", what, got)
	}
	if got := impl.NetRight(append(onWay("xyl", "yxl"), m)); got != right {
		t.Errorf("%.60s: NetRight of it behind others: got %v", what, got)
	}
	if got := impl.NetRight(append([]impl.Msg{m}, onWay("xyl", "yxl")...)); got != right {
		t.Errorf("%.60s: NetRight of it ahead of others: got %v", what, got)
	}
	wantNet(t, what+": NetPut onto nothing", impl.NetPut(nil, m), ownPut(nil, m))
	wantNet(t, what+": NetPut behind others", impl.NetPut(onWay("xyl"), m), ownPut(onWay("xyl"), m))
}

func TestPromise7KnownNets(t *testing.T) {
	l := onWay("abk", "acl", "abm", "bak", "abn", "acm")
	all := impl.NetOut{Net: l, Msg: msgOf("abk")}
	wantNet(t, "NetSee of several", impl.NetSee(l, "a", "b"), all)
	wantNet(t, "NetSee of one", impl.NetSee(l, "b", "a"), impl.NetOut{Net: l, Msg: msgOf("bak")})
	wantNet(t, "NetSee of two behind another", impl.NetSee(l, "a", "c"), impl.NetOut{Net: l, Msg: msgOf("acl")})
	wantNet(t, "NetTake of several", impl.NetTake(l, "a", "b"), impl.NetOut{Net: onWay("acl", "abm", "bak", "abn", "acm"), Msg: msgOf("abk")})
	wantNet(t, "NetTake of one", impl.NetTake(l, "b", "a"), impl.NetOut{Net: onWay("abk", "acl", "abm", "abn", "acm"), Msg: msgOf("bak")})
	wantNet(t, "NetTake of two", impl.NetTake(l, "a", "c"), impl.NetOut{Net: onWay("abk", "abm", "bak", "abn", "acm"), Msg: msgOf("acl")})
	wantNet(t, "NetTake of the last one", impl.NetTake(onWay("abk", "bam"), "b", "a"), impl.NetOut{Net: onWay("abk"), Msg: msgOf("bam")})
	wantNet(t, "NetTake of all there is", impl.NetTake(onWay("abk"), "a", "b"), impl.NetOut{Msg: msgOf("abk")})
	for _, two := range [][2]string{{"c", "a"}, {"b", "c"}, {"c", "b"}, {"a", "d"}, {"d", "b"}, {"a", "a"}, {"aa", "b"}, {"a", "bb"}} {
		wantNet(t, "NetSee of none of both", impl.NetSee(l, two[0], two[1]), impl.NetOut{Code: impl.ErrNone})
		wantNet(t, "NetTake of none of both", impl.NetTake(l, two[0], two[1]), impl.NetOut{Code: impl.ErrNone})
		wantNet(t, "NetSee in nothing", impl.NetSee(nil, two[0], two[1]), impl.NetOut{Code: impl.ErrNone})
		wantNet(t, "NetTake in nothing", impl.NetTake([]impl.Msg{}, two[0], two[1]), impl.NetOut{Code: impl.ErrNone})
	}
	wantNet(t, "NetPut onto nothing", impl.NetPut(nil, msgOf("abk")), impl.NetOut{Net: onWay("abk")})
	wantNet(t, "NetPut onto an empty list", impl.NetPut([]impl.Msg{}, msgOf("abk")), impl.NetOut{Net: onWay("abk")})
	wantNet(t, "NetPut behind others", impl.NetPut(l, msgOf("ack")), impl.NetOut{Net: onWay("abk", "acl", "abm", "bak", "abn", "acm", "ack")})
	wantNet(t, "NetPut onto a full queue", impl.NetPut(l, msgOf("abk")), impl.NetOut{Code: impl.ErrFull})
	wantNet(t, "NetPut the other way round", impl.NetPut(l, msgOf("cak")), impl.NetOut{Net: onWay("abk", "acl", "abm", "bak", "abn", "acm", "cak")})
}

func TestPromise7KnownFaults(t *testing.T) {
	l := onWay("abk", "acl", "abm", "bak", "acm")
	for _, c := range []struct {
		what   string
		kind   int64
		number int64
		want   impl.NetOut
	}{
		{"the first one goes", impl.FtDrop, 0, impl.NetOut{Net: onWay("acl", "abm", "bak", "acm")}},
		{"one in between goes", impl.FtDrop, 2, impl.NetOut{Net: onWay("abk", "acl", "bak", "acm")}},
		{"the last one goes", impl.FtDrop, 4, impl.NetOut{Net: onWay("abk", "acl", "abm", "bak")}},
		{"a number of one too many", impl.FtDrop, 5, impl.NetOut{Net: onWay("acl", "abm", "bak", "acm")}},
		{"a great number", impl.FtDrop, 999998, impl.NetOut{Net: onWay("abk", "acl", "abm", "acm")}},
		{"MaxTime", impl.FtDrop, impl.MaxTime, impl.NetOut{Net: onWay("acl", "abm", "bak", "acm")}},
		{"more than MaxTime", impl.FtDrop, impl.MaxTime + 1, impl.NetOut{Code: impl.ErrForm}},
		{"below 0", impl.FtDrop, -1, impl.NetOut{Code: impl.ErrForm}},
		{"the first one twice", impl.FtTwice, 0, impl.NetOut{Net: onWay("abk", "abk", "acl", "abm", "bak", "acm")}},
		{"one in between twice", impl.FtTwice, 8, impl.NetOut{Net: onWay("abk", "acl", "abm", "bak", "bak", "acm")}},
		{"the last one twice", impl.FtTwice, 4, impl.NetOut{Net: onWay("abk", "acl", "abm", "bak", "acm", "acm")}},
		{"swapped with others between", impl.FtSwap, 0, impl.NetOut{Net: onWay("abm", "acl", "abk", "bak", "acm")}},
		{"swapped with the last one", impl.FtSwap, 6, impl.NetOut{Net: onWay("abk", "acm", "abm", "bak", "acl")}},
		{"none behind of both, though one ahead", impl.FtSwap, 2, impl.NetOut{Code: impl.ErrNone}},
		{"none of both at all", impl.FtSwap, 3, impl.NetOut{Code: impl.ErrNone}},
		{"none behind the last one", impl.FtSwap, 4, impl.NetOut{Code: impl.ErrNone}},
		{"a kind of 0", 0, 0, impl.NetOut{Code: impl.ErrForm}},
		{"a kind of 4", 4, 0, impl.NetOut{Code: impl.ErrForm}},
		{"a kind below 0", -1, 0, impl.NetOut{Code: impl.ErrForm}},
	} {
		wantNet(t, c.what, impl.NetFault(l, c.kind, c.number), c.want)
	}
	row := onWay("abk", "abl", "abm")
	wantNet(t, "swapped with the one right behind", impl.NetFault(row, impl.FtSwap, 0), impl.NetOut{Net: onWay("abl", "abk", "abm")})
	wantNet(t, "swapped with the next one, not with the first", impl.NetFault(row, impl.FtSwap, 1), impl.NetOut{Net: onWay("abk", "abm", "abl")})
	wantNet(t, "twice on a full queue", impl.NetFault(row, impl.FtTwice, 1), impl.NetOut{Code: impl.ErrFull})
	wantNet(t, "swapped with one alike", impl.NetFault(onWay("abk", "cdk", "abk"), impl.FtSwap, 0), impl.NetOut{Net: onWay("abk", "cdk", "abk")})
	wantNet(t, "one alone goes", impl.NetFault(onWay("abk"), impl.FtDrop, 77), impl.NetOut{})
	wantNet(t, "one alone twice", impl.NetFault(onWay("abk"), impl.FtTwice, 77), impl.NetOut{Net: onWay("abk", "abk")})
	wantNet(t, "one alone swapped", impl.NetFault(onWay("abk"), impl.FtSwap, 77), impl.NetOut{Code: impl.ErrNone})
	for _, kind := range []int64{impl.FtDrop, impl.FtTwice, impl.FtSwap} {
		for _, number := range []int64{0, 1, impl.MaxTime} {
			wantNet(t, "nothing on its way", impl.NetFault(nil, kind, number), impl.NetOut{Code: impl.ErrNone})
			wantNet(t, "an empty list", impl.NetFault([]impl.Msg{}, kind, number), impl.NetOut{Code: impl.ErrNone})
		}
	}
}

// Of all lists of up to five Msgs out of four some have a queue that is too long.
func TestPromise7EveryShortList(t *testing.T) {
	word := onWay("abk", "abl", "bak", "acm")
	lists := [][]impl.Msg{nil}
	for i := 0; i < len(lists); i++ {
		holdsNet(t, "a short list", lists[i])
		for _, m := range word {
			if len(lists[i]) < 5 {
				lists = append(lists, append(slices.Clone(lists[i]), m))
			}
		}
	}
	if len(lists) != 1+4+16+64+256+1024 {
		t.Errorf("%d lists", len(lists))
	}
}

func TestPromise7Limits(t *testing.T) {
	between := func(count int) []impl.Msg {
		l := pairs(2)
		for i := range count {
			l = append(l, impl.Msg{From: "a", To: "b", Label: "l" + strconv.Itoa(i), Sort: int64(i % 3)}, pairs(9)[2+i])
		}
		return l
	}
	for _, c := range []struct {
		what  string
		l     []impl.Msg
		right bool
	}{
		{"none", nil, true},
		{"35", pairs(35), true},
		{"36", pairs(36), true},
		{"37", pairs(37), false},
		{"35 in queues", queues(12)[:35], true},
		{"36 in full queues", queues(12), true},
		{"37 in queues", append(queues(12), msgOf("abl")), false},
		{"36 and two alike", append(pairs(35), pairs(1)...), true},
		{"MaxQueue of both", onWay("abk", "abk", "abk"), true},
		{"one more of both", onWay("abk", "abk", "abk", "abk"), false},
		{"MaxQueue of both, others between", between(3), true},
		{"one more of both, others between", between(4), false},
		{"four from one", onWay("abk", "ack", "adk", "aek"), true},
		{"four to one", onWay("bak", "cak", "dak", "eak"), true},
		{"four between two, both ways", onWay("abk", "bak", "abk", "bak"), true},
		{"six between two, both ways", onWay("abk", "bak", "abk", "bak", "abk", "bak"), true},
		{"seven between two", onWay("abk", "bak", "abk", "bak", "abk", "bak", "bal"), false},
		{"four with other Labels and Sorts", onWay("abk", "abl", "abm", "abn"), false},
		{"four with names that run together", []impl.Msg{{From: "a", To: "bc", Label: "l"}, {From: "ab", To: "c", Label: "l"}, {From: "a", To: "bc", Label: "l"}, {From: "ab", To: "c", Label: "l"}}, true},
		{"a full queue at the end of 36", append(pairs(33), onWay("abk", "abl", "abm")...), true},
		{"a queue that is too long at the end of 36", append(pairs(32), onWay("abk", "abl", "abm", "abn")...), false},
		{"one that is not right at the end of 36", append(pairs(35), impl.Msg{}), false},
		{"one that is not right at the beginning of 36", append([]impl.Msg{{}}, pairs(35)...), false},
		{"MaxList", slices.Repeat(pairs(40), 10), false},
		{"MaxList and one", slices.Repeat(pairs(401), 1), false},
		{"many", slices.Repeat(pairs(40), 50), false},
		{"MaxList that are not right", make([]impl.Msg, impl.MaxList), false},
		{"more than MaxList that are not right", make([]impl.Msg, impl.MaxList+1), false},
	} {
		if ownNetRight(c.l) != c.right {
			t.Fatalf("%s: the rules asked one by one say something else", c.what)
		}
		if got := impl.NetRight(c.l); got != c.right {
			t.Errorf("%s: NetRight: got %v", c.what, got)
		}
		holdsNet(t, c.what, c.l)
	}
}

func TestPromise7FullNets(t *testing.T) {
	m := msgOf("abl")
	full := impl.NetOut{Code: impl.ErrFull}
	wantNet(t, "NetPut onto 35", impl.NetPut(pairs(35), m), impl.NetOut{Net: append(pairs(35), m)})
	wantNet(t, "NetPut onto 36", impl.NetPut(pairs(36), m), full)
	wantNet(t, "NetPut onto 36 in queues", impl.NetPut(queues(12), m), full)
	wantNet(t, "NetPut onto 36 of one that is among them", impl.NetPut(pairs(36), pairs(1)[0]), full)
	wantNet(t, "NetPut onto 37", impl.NetPut(pairs(37), m), impl.NetOut{Code: impl.ErrForm})
	wantNet(t, "NetPut onto two of both", impl.NetPut(onWay("abk", "abk"), m), impl.NetOut{Net: onWay("abk", "abk", "abl")})
	wantNet(t, "NetPut onto three of both", impl.NetPut(onWay("abk", "abk", "abk"), m), full)
	wantNet(t, "NetPut onto four of both", impl.NetPut(onWay("abk", "abk", "abk", "abk"), m), impl.NetOut{Code: impl.ErrForm})
	wantNet(t, "NetPut onto three of both, others between", impl.NetPut(onWay("abk", "bak", "abl", "ack", "abm", "cbk"), m), full)
	twice := slices.Insert(pairs(35), 7, pairs(8)[7])
	wantNet(t, "FtTwice on 35", impl.NetFault(pairs(35), impl.FtTwice, 7), impl.NetOut{Net: twice})
	wantNet(t, "FtTwice on 36", impl.NetFault(pairs(36), impl.FtTwice, 7), full)
	wantNet(t, "FtTwice on a full queue", impl.NetFault(onWay("bak", "abk", "bal", "abl", "abm"), impl.FtTwice, 3), full)
	wantNet(t, "FtTwice beside a full queue", impl.NetFault(onWay("bak", "abk", "bal", "abl", "abm"), impl.FtTwice, 2), impl.NetOut{Net: onWay("bak", "abk", "bal", "bal", "abl", "abm")})
	wantNet(t, "FtDrop of 36", impl.NetFault(pairs(36), impl.FtDrop, 35), impl.NetOut{Net: pairs(35)})
	wantNet(t, "FtDrop of 36, and the number 36", impl.NetFault(pairs(36), impl.FtDrop, 36), impl.NetOut{Net: pairs(36)[1:]})
	swapped := queues(12)
	swapped[11], swapped[23] = swapped[23], swapped[11]
	wantNet(t, "FtSwap of 36", impl.NetFault(queues(12), impl.FtSwap, 11), impl.NetOut{Net: swapped})
}

func TestPromise7WhichFaultComesFirst(t *testing.T) {
	m, wrong := msgOf("abl"), impl.Msg{From: "a", To: "a", Label: "l"}
	good, bad, many := onWay("abk", "ack"), onWay("abk", "aak"), pairs(impl.MaxList+1)
	long, most := strings.Repeat("a", impl.MaxBytes+1), strings.Repeat("a", impl.MaxBytes)
	far := impl.Msg{From: long, To: "b", Label: "l"}
	for _, c := range []struct {
		what string
		got  impl.NetOut
		want int64
	}{
		{"NetPut onto too many", impl.NetPut(many, m), impl.ErrSize},
		{"NetPut of a wrong one onto too many", impl.NetPut(many, wrong), impl.ErrSize},
		{"NetPut onto too many that are wrong", impl.NetPut(make([]impl.Msg, impl.MaxList+1), m), impl.ErrSize},
		{"NetPut onto as many as may be", impl.NetPut(make([]impl.Msg, impl.MaxList), m), impl.ErrForm},
		{"NetPut of a field that is too long", impl.NetPut(good, far), impl.ErrForm},
		{"NetPut onto a field that is too long", impl.NetPut([]impl.Msg{far}, m), impl.ErrForm},
		{"NetPut of a wrong one onto what is full", impl.NetPut(pairs(36), wrong), impl.ErrForm},
		{"NetPut of a wrong one onto a full queue", impl.NetPut(onWay("abk", "abk", "abk"), impl.Msg{From: "a", To: "b", Label: "l", Sort: 3}), impl.ErrForm},
		{"NetPut onto a wrong one and what is full", impl.NetPut(append(pairs(35), wrong), m), impl.ErrForm},
		{"NetPut onto a wrong one", impl.NetPut(bad, m), impl.ErrForm},
		{"NetSee in too many", impl.NetSee(many, "a", "b"), impl.ErrSize},
		{"NetSee in too many, from no name", impl.NetSee(many, "", "b"), impl.ErrSize},
		{"NetSee from a text that is too long", impl.NetSee(good, long, "b"), impl.ErrSize},
		{"NetSee to a text that is too long", impl.NetSee(good, "a", long), impl.ErrSize},
		{"NetSee from no name to a text that is too long", impl.NetSee(good, "", long), impl.ErrSize},
		{"NetSee from a text that is too long to no name", impl.NetSee(good, long, ""), impl.ErrSize},
		{"NetSee in a wrong list to a text that is too long", impl.NetSee(bad, "a", long), impl.ErrSize},
		{"NetSee in nothing from a text that is too long", impl.NetSee(nil, long, "b"), impl.ErrSize},
		{"NetSee from a text that is not too long", impl.NetSee(good, most, "b"), impl.ErrForm},
		{"NetSee to a text that is not too long", impl.NetSee(good, "a", most), impl.ErrForm},
		{"NetSee in a wrong list", impl.NetSee(bad, "a", "b"), impl.ErrForm},
		{"NetSee in a wrong list, of none", impl.NetSee(bad, "x", "y"), impl.ErrForm},
		{"NetSee from no name", impl.NetSee(good, "", "b"), impl.ErrForm},
		{"NetSee to no name", impl.NetSee(good, "a", ""), impl.ErrForm},
		{"NetSee in nothing from no name", impl.NetSee(nil, "A", "b"), impl.ErrForm},
		{"NetSee in nothing to no name", impl.NetSee(nil, "a", "B"), impl.ErrForm},
		{"NetTake in too many", impl.NetTake(many, "a", "b"), impl.ErrSize},
		{"NetTake in too many, to no name", impl.NetTake(many, "a", ""), impl.ErrSize},
		{"NetTake from a text that is too long", impl.NetTake(bad, long, ""), impl.ErrSize},
		{"NetTake to a text that is too long", impl.NetTake(bad, "", long), impl.ErrSize},
		{"NetTake from a text that is not too long", impl.NetTake(good, most, "b"), impl.ErrForm},
		{"NetTake to a text that is not too long", impl.NetTake(good, "a", most), impl.ErrForm},
		{"NetTake in a wrong list, of none", impl.NetTake(bad, "x", "y"), impl.ErrForm},
		{"NetTake in nothing from no name", impl.NetTake(nil, "_", "b"), impl.ErrForm},
		{"NetTake in nothing to no name", impl.NetTake(nil, "a", "1"), impl.ErrForm},
		{"NetFault in too many", impl.NetFault(many, impl.FtDrop, 0), impl.ErrSize},
		{"NetFault in too many, of no kind and no time", impl.NetFault(many, 0, -1), impl.ErrSize},
		{"NetFault in nothing, of no kind", impl.NetFault(nil, 0, 0), impl.ErrForm},
		{"NetFault in nothing, of no time", impl.NetFault(nil, impl.FtDrop, -1), impl.ErrForm},
		{"NetFault in nothing, of a time that is too great", impl.NetFault(nil, impl.FtSwap, impl.MaxTime+1), impl.ErrForm},
		{"NetFault in a wrong list", impl.NetFault(bad, impl.FtDrop, 0), impl.ErrForm},
		{"NetFault in a wrong list, none behind", impl.NetFault(bad, impl.FtSwap, 0), impl.ErrForm},
		{"NetFault in 37", impl.NetFault(pairs(37), impl.FtTwice, 0), impl.ErrForm},
		{"NetFault in 37, one drops", impl.NetFault(pairs(37), impl.FtDrop, 0), impl.ErrForm},
		{"NetFault on a full queue, of no time", impl.NetFault(onWay("abk", "abk", "abk"), impl.FtTwice, -1), impl.ErrForm},
	} {
		wantNet(t, c.what, c.got, impl.NetOut{Code: c.want})
	}
}

// anyNet puts up to that many Msgs between a few on their way, as many as may be.
func anyNet(r *rand.Rand, most int) []impl.Msg {
	names := []string{"a", "b", "cc", "d_1"}
	var l []impl.Msg
	for range r.Intn(most + 1) {
		m := impl.Msg{From: names[r.Intn(4)], To: names[r.Intn(4)], Label: "l" + strconv.Itoa(r.Intn(9)), Sort: int64(r.Intn(3))}
		if out := ownPut(l, m); out.Code == impl.OK {
			l = out.Net
		}
	}
	return l
}

func TestPromise7ManyNets(t *testing.T) {
	r := rand.New(rand.NewSource(57))
	sizes := map[int]int{}
	for range 80 {
		l := anyNet(r, 120)
		sizes[len(l)/12]++
		holdsNet(t, "a right list", l)
		if len(l) > 0 {
			at := r.Intn(len(l))
			turned := slices.Clone(l)
			switch r.Intn(5) {
			case 0:
				turned[at].From = turned[at].To
			case 1:
				turned[at].To = "D"
			case 2:
				turned[at].Label = ""
			case 3:
				turned[at].Sort += 3
			case 4:
				turned[at].From, turned[at].To = "a", "b"
			}
			holdsNet(t, "a turned list", turned)
		}
	}
	for size := range 4 {
		if sizes[size] == 0 {
			t.Errorf("no list of about %d", size*12)
		}
	}
}

// The promise in its own words: onto what is not between these two yet, and behind what is.
func TestPromise7PutIsTaken(t *testing.T) {
	r := rand.New(rand.NewSource(7))
	alone, behind := 0, 0
	for range 800 {
		l := anyNet(r, 60)
		for _, one := range anyNet(r, 60) {
			put := impl.NetPut(l, one)
			if put.Code != impl.OK {
				continue
			}
			taken := impl.NetTake(put.Net, one.From, one.To)
			first := ownPlaces(l, one.From, one.To)
			if len(first) == 0 {
				alone++
				wantNet(t, "nothing was between these two", taken, impl.NetOut{Net: l, Msg: one})
			} else {
				behind++
				wantNet(t, "the first one is taken", taken, impl.NetOut{Net: append(slices.Delete(slices.Clone(l), first[0], first[0]+1), one), Msg: l[first[0]]})
			}
			wantNet(t, "what is seen is what is taken", impl.NetSee(put.Net, one.From, one.To), impl.NetOut{Net: put.Net, Msg: taken.Msg})
		}
	}
	if alone < 1000 || behind < 1000 {
		t.Errorf("only %d are put alone, and %d behind others", alone, behind)
	}
}

// What two say to each other is heard in the order in which it was said, whoever talks between.
func TestPromise7InTheirOrder(t *testing.T) {
	r := rand.New(rand.NewSource(75))
	for range 300 {
		var l []impl.Msg
		said := map[string][]impl.Msg{}
		for range 200 {
			from, to := string("abc"[r.Intn(3)]), string("abc"[r.Intn(3)])
			if r.Intn(2) == 0 {
				m := impl.Msg{From: from, To: to, Label: "l" + strconv.Itoa(r.Intn(100)), Sort: int64(r.Intn(3))}
				if out := impl.NetPut(l, m); out.Code == impl.OK {
					l = out.Net
					said[from+to] = append(said[from+to], m)
				} else if from != to && len(said[from+to]) < impl.MaxQueue {
					t.Fatalf("NetPut(%v, %v): got the code %d", l, m, out.Code)
				}
				continue
			}
			out := impl.NetTake(l, from, to)
			if queue := said[from+to]; len(queue) == 0 {
				wantNet(t, "nothing was said", out, impl.NetOut{Code: impl.ErrNone})
			} else if out.Code != impl.OK || out.Msg != queue[0] {
				t.Fatalf("NetTake(%v, %s, %s): got %v, want %v", l, from, to, out, queue[0])
			} else {
				l, said[from+to] = out.Net, queue[1:]
			}
		}
	}
}

func TestPromise7KnownBytes(t *testing.T) {
	abl := "\x02a\x02b\x02l\x00"
	abcd := "\x02a\x06bcd\x04l1\x04"
	for text, l := range map[string][]impl.Msg{
		"\x00":                     nil,
		"\x02\x16" + ownSeal(abl):  {{From: "a", To: "b", Label: "l"}},
		"\x02\x1c" + ownSeal(abcd): {{From: "a", To: "bcd", Label: "l1", Sort: impl.SoText}},
		"\x04\x16" + ownSeal(abl) + "\x1c" + ownSeal(abcd): {{From: "a", To: "b", Label: "l"}, {From: "a", To: "bcd", Label: "l1", Sort: impl.SoText}},
	} {
		if got := impl.NetBytes(l); got != text {
			t.Errorf("NetBytes(%v): got %q, want %q", l, got, text)
		}
		wantNet(t, "NetRead", impl.NetRead(text), impl.NetOut{Net: l})
	}
	const sealed = "\x02a\x02b\x02l\x00" + "\x85\x8e\x78\xe8"
	if ownSeal(abl) != sealed {
		t.Errorf("the seal is %q", ownSeal(abl))
	}
}

func refusesNet(t *testing.T, what string, text string, code int64) {
	t.Helper()
	wantNet(t, what+" of "+strconv.Quote(text[:min(len(text), 80)]), impl.NetRead(text), impl.NetOut{Code: code})
}

// someNets are short, long, full, and with names that are as long as may be.
func someNets() [][]impl.Msg {
	long := strings.Repeat("n", 20)
	return [][]impl.Msg{
		nil,
		onWay("abk"),
		onWay("abk", "bal", "abk", "abm"),
		{{From: long, To: "m" + long[1:], Label: long, Sort: 2}, {From: "x", To: long, Label: "l"}},
		pairs(5),
	}
}

func TestPromise7BytesNearby(t *testing.T) {
	for _, l := range someNets() {
		text := impl.NetBytes(l)
		for i := range text {
			refusesNet(t, "its beginning", text[:i], impl.ErrSyntax)
			refusesNet(t, "one byte cut out", text[:i]+text[i+1:], impl.ErrSyntax)
			if len(l) > 0 {
				refusesNet(t, "its end", text[i+1:], impl.ErrSyntax)
			}
			for b := range 256 {
				one := string([]byte{byte(b)})
				if one != text[i:i+1] {
					refusesNet(t, "one byte turned", text[:i]+one+text[i+1:], impl.ErrSyntax)
				}
				refusesNet(t, "one byte put in", text[:i]+one+text[i:], impl.ErrSyntax)
			}
		}
		for b := range 256 {
			refusesNet(t, "one byte put behind", text+string([]byte{byte(b)}), impl.ErrSyntax)
		}
		refusesNet(t, "twice", text+text, impl.ErrSyntax)
	}
}

// What is sealed as it should be, but is no right Msg, or not just one.
func TestPromise7SealedWrongMsgs(t *testing.T) {
	put := func(inner string) string {
		return varint(int64(len(ownSeal(inner)))) + ownSeal(inner)
	}
	good := put("\x02a\x02b\x02l\x00")
	if got := impl.NetRead("\x06" + put("\x02x\x02y\x02l\x00") + good + good); got.Code != impl.OK || len(got.Net) != 3 {
		t.Fatalf("NetRead of three: got %v", got)
	}
	for what, inner := range map[string]string{
		"nothing":                        "",
		"no To":                          "\x02a",
		"no Label":                       "\x02a\x02b",
		"no Sort":                        "\x02a\x02b\x02l",
		"half a Sort":                    "\x02a\x02b\x02l\x80",
		"one byte more":                  "\x02a\x02b\x02l\x00\x00",
		"two Msgs":                       "\x02a\x02b\x02l\x00\x02a\x02b\x02l\x00",
		"an empty From":                  "\x00\x02b\x02l\x00",
		"an empty To":                    "\x02a\x00\x02l\x00",
		"an empty Label":                 "\x02a\x02b\x00\x00",
		"From is no name":                "\x02A\x02b\x02l\x00",
		"To is no name":                  "\x02a\x021\x02l\x00",
		"Label is no name":               "\x02a\x02b\x02_\x00",
		"From and To are the same":       "\x02a\x02a\x02l\x00",
		"a Sort of -1":                   "\x02a\x02b\x02l\x01",
		"a Sort of 3":                    "\x02a\x02b\x02l\x06",
		"a From of 21 bytes":             varint(21) + strings.Repeat("f", 21) + "\x02b\x02l\x00",
		"a Label of 21 bytes":            "\x02a\x02b" + varint(21) + strings.Repeat("f", 21) + "\x00",
		"a length below 0":               "\x01a\x02b\x02l\x00",
		"a length of more than there is": "\x02a\x02b\x20l\x00",
		"a length of more than MaxBytes": varint(8001) + strings.Repeat("f", 7000),
	} {
		refusesNet(t, what, "\x02"+put(inner), impl.ErrSyntax)
		refusesNet(t, what+", ahead of a right one", "\x04"+put(inner)+good, impl.ErrSyntax)
		refusesNet(t, what+", behind a right one", "\x04"+good+put(inner), impl.ErrSyntax)
		refusesNet(t, what+", with a count of one", "\x02"+good+put(inner), impl.ErrSyntax)
	}
	for what, text := range map[string]string{
		"nothing":                   "",
		"a count below 0":           "\x01",
		"a count below 0, and one":  "\x01" + good,
		"a count of one too few":    "\x02" + good + good,
		"a count of one too many":   "\x06" + good + good,
		"no count":                  good,
		"a queue that is too long":  "\x08" + good + good + good + good,
		"one that is not sealed":    "\x02\x0e\x02a\x02b\x02l\x00",
		"one that is sealed twice":  "\x02" + put(ownSeal("\x02a\x02b\x02l\x00")),
		"one of three bytes":        "\x02\x06\x00\x00\x00",
		"one of no bytes":           "\x02\x00",
		"an empty one, sealed":      "\x02\x08\x00\x00\x00\x00",
		"a length below 0":          "\x02\x01" + good[1:],
		"sealed as a whole":         ownSeal("\x02" + good),
		"texts that are not sealed": "\x02\x02a\x02b\x02l\x00",
	} {
		refusesNet(t, what, text, impl.ErrSyntax)
	}
}

// Each number of the bytes, those of lengths and of how many among them, by turns in one byte more than it needs, and as another one; all seals are right.
func TestPromise7NumbersInBytes(t *testing.T) {
	for _, l := range someNets() {
		count := 0
		netBy(l, func(int64) string { count++; return "" }, ownSeal)
		for at := range count {
			turned := func(put func(n int64) string) string {
				i := -1
				return netBy(l, func(n int64) string {
					if i++; i == at {
						return put(n)
					}
					return varint(n)
				}, ownSeal)
			}
			needless := turned(func(n int64) string {
				b := []byte(varint(n))
				b[len(b)-1] |= 128
				return string(b) + "\x00"
			})
			refusesNet(t, "a number in more bytes than it needs", needless, impl.ErrSyntax)
			for _, other := range []int64{-1, 3, 37, 8001, math.MinInt64, math.MaxInt64} {
				text := turned(func(n int64) string {
					if n == other {
						other--
					}
					return varint(other)
				})
				refusesNet(t, "another number", text, impl.ErrSyntax)
			}
			refusesNet(t, "no number", turned(func(int64) string { return strings.Repeat("\xff", 10) }), impl.ErrSyntax)
		}
	}
}

// Each seal, by turns, is not right: one of its bits is turned, it is that of another text, or it is not there.
func TestPromise7Seals(t *testing.T) {
	l := pairs(4)
	for at := range l {
		turned := func(seal func(text string) string) string {
			i := -1
			return netBy(l, varint, func(text string) string {
				if i++; i == at {
					return seal(text)
				}
				return ownSeal(text)
			})
		}
		if turned(ownSeal) != impl.NetBytes(l) {
			t.Fatal("the bytes are not those of the list")
		}
		for bit := range 32 {
			refusesNet(t, "one bit turned", turned(func(text string) string {
				b := []byte(ownSeal(text))
				b[len(text)+bit/8] ^= 1 << (bit % 8)
				return string(b)
			}), impl.ErrSyntax)
		}
		refusesNet(t, "no seal", turned(func(text string) string { return text }), impl.ErrSyntax)
		refusesNet(t, "another seal", turned(func(text string) string { return text + ownSeal(text[1:])[len(text)-1:] }), impl.ErrSyntax)
		refusesNet(t, "the highest byte first", turned(func(text string) string {
			b := []byte(ownSeal(text))
			slices.Reverse(b[len(text):])
			return string(b)
		}), impl.ErrSyntax)
	}
}

func TestPromise7ByteSizes(t *testing.T) {
	for _, count := range []int{35, 36} {
		text := netBy(pairs(count), varint, ownSeal)
		wantNet(t, "many", impl.NetRead(text), impl.NetOut{Net: pairs(count)})
		wantNet(t, "many in queues", impl.NetRead(netBy(queues(12)[:count], varint, ownSeal)), impl.NetOut{Net: queues(12)[:count]})
	}
	refusesNet(t, "37", netBy(pairs(37), varint, ownSeal), impl.ErrSyntax)
	refusesNet(t, "36 and the count of 37", varint(37)+netBy(pairs(36), varint, ownSeal)[1:], impl.ErrSyntax)
	refusesNet(t, "400", netBy(pairs(400), varint, ownSeal), impl.ErrSyntax)
	refusesNet(t, "600", netBy(pairs(600), varint, ownSeal), impl.ErrSize)
	one := impl.NetBytes(onWay("abk"))
	for _, size := range []int{impl.MaxBytes - 1, impl.MaxBytes} {
		refusesNet(t, "not too long", one+strings.Repeat("\x00", size-len(one)), impl.ErrSyntax)
		refusesNet(t, "not too long, of zeros", strings.Repeat("\x00", size), impl.ErrSyntax)
	}
	for _, size := range []int{impl.MaxBytes + 1, 100000} {
		refusesNet(t, "too long", one+strings.Repeat("\x00", size-len(one)), impl.ErrSize)
		refusesNet(t, "too long, of zeros", strings.Repeat("\x00", size), impl.ErrSize)
		refusesNet(t, "too long, of high bytes", strings.Repeat("\xff", size), impl.ErrSize)
	}
	long := strings.Repeat("n", 20)
	var greatest []impl.Msg
	for i := range 36 {
		end := strconv.Itoa(10 + i)
		greatest = append(greatest, impl.Msg{From: long[2:] + end, To: "o" + long[3:] + end, Label: long, Sort: 2})
	}
	if text := impl.NetBytes(greatest); len(text) == 0 || len(text) > impl.MaxBytes {
		t.Errorf("the greatest list has %d bytes", len(text))
	}
	wantNet(t, "the greatest list", impl.NetRead(impl.NetBytes(greatest)), impl.NetOut{Net: greatest})
}

func TestNetNewMemory(t *testing.T) {
	l := []impl.Msg{{From: "alpha", To: "beta", Label: "word"}, {From: "beta", To: "alpha", Label: "other"}, {From: "alpha", To: "beta", Label: "third", Sort: 2}}
	m := impl.Msg{From: "gamma", To: "alpha", Label: "fourth", Sort: 1}
	texts := append(textsOf(l), m.From, m.To, m.Label)
	before := slices.Clone(l)
	from, to := strings.Clone("alpha"), strings.Clone("beta")
	texts = append(texts, from, to)
	ask := func() []impl.NetOut {
		return []impl.NetOut{
			impl.NetPut(l, m), impl.NetSee(l, from, to), impl.NetTake(l, from, to), impl.NetTake(l, to, from), impl.NetTake(l[:1], from, to),
			impl.NetFault(l, impl.FtDrop, 0), impl.NetFault(l, impl.FtDrop, 1), impl.NetFault(l, impl.FtDrop, 2),
			impl.NetFault(l, impl.FtTwice, 0), impl.NetFault(l, impl.FtTwice, 2), impl.NetFault(l, impl.FtSwap, 0),
		}
	}
	first := ask()
	for i, out := range ask() {
		wantNet(t, "asked once more", out, first[i], texts...)
		for j := range out.Net {
			out.Net[j] = impl.Msg{Label: "changed"}
		}
		clear(out.Net[:cap(out.Net)])
		if !slices.Equal(l, before) {
			t.Fatalf("the answer %d shares its list with what is handed in", i)
		}
	}
	for i, out := range ask() {
		wantNet(t, "asked again", out, first[i], texts...)
	}
	bytes := impl.NetBytes(l)
	wantNet(t, "its bytes", impl.NetRead(bytes), impl.NetOut{Net: l}, bytes)
	if !slices.Equal(l, before) {
		t.Errorf("the list has been changed: %v", l)
	}
}
