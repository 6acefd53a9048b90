package tests

import (
	"encoding/binary"
	"hash/crc32"
	"math"
	"strings"
	"testing"
	"unsafe"

	"loop.example/g00574/impl"
)

// manyNums: each power of two with its neighbours, on both sides of 0; the least and the greatest int64 are among them.
func manyNums() []int64 {
	nums := []int64{0, math.MinInt64, math.MaxInt64}
	for shift := range 64 {
		p := int64(1) << shift
		nums = append(nums, p-1, p, p+1, -p-1, -p, -p+1)
	}
	return nums
}

// manyTexts: with bytes of every value, and of lengths about where PutNum of them needs one byte more.
func manyTexts() []string {
	texts := []string{}
	for _, size := range []int{0, 1, 2, 3, 4, 5, 62, 63, 64, 65, 255, 256, 1000, 7990} {
		texts = append(texts, mixedText(size, 1), mixedText(size, 7))
	}
	return texts
}

func mixedText(size int, start int) string {
	b := make([]byte, size)
	for i := range b {
		b[i] = byte(start + i*i*31 + i>>3)
	}
	return string(b)
}

func sameMemory(a string, b string) bool {
	if a == "" || b == "" {
		return false
	}
	from, to := uintptr(unsafe.Pointer(unsafe.StringData(b))), uintptr(len(b))
	at := uintptr(unsafe.Pointer(unsafe.StringData(a)))
	return at >= from && at < from+to
}

func wantNum(t *testing.T, what string, got impl.NumOut, want impl.NumOut) {
	t.Helper()
	if got != want {
		t.Errorf("%s: got %+v, want %+v", what, got, want)
	}
}

func wantText(t *testing.T, what string, got impl.TextOut, want impl.TextOut) {
	t.Helper()
	if got != want {
		t.Errorf("%s: got %.60q At %d Code %d, want %.60q At %d Code %d", what, got.Text, got.At, got.Code, want.Text, want.At, want.Code)
	}
}

func TestPromise1PutNumBytes(t *testing.T) {
	for _, c := range []struct {
		n    int64
		want string
	}{
		{0, "\x00"}, {-1, "\x01"}, {1, "\x02"}, {-2, "\x03"},
		{63, "\x7e"}, {-64, "\x7f"}, {64, "\x80\x01"}, {-65, "\x81\x01"},
		{8191, "\xfe\x7f"}, {-8192, "\xff\x7f"}, {8192, "\x80\x80\x01"},
		{math.MaxInt64, "\xfe\xff\xff\xff\xff\xff\xff\xff\xff\x01"},
		{math.MinInt64, "\xff\xff\xff\xff\xff\xff\xff\xff\xff\x01"},
	} {
		if got := impl.PutNum(c.n); got != c.want {
			t.Errorf("PutNum(%d): got %q, want %q", c.n, got, c.want)
		}
	}
	for _, n := range manyNums() {
		if got, want := impl.PutNum(n), string(binary.AppendVarint(nil, n)); got != want {
			t.Errorf("PutNum(%d): got %q, want %q", n, got, want)
		}
	}
}

func TestPromise1NumsComeBack(t *testing.T) {
	for _, n := range manyNums() {
		b := impl.PutNum(n)
		size := int64(len(b))
		wantNum(t, "alone", impl.GetNum(b, 0), impl.NumOut{N: n, At: size})
		wantNum(t, "between others", impl.GetNum("\x80\xff"+b+"\x80\x00", 2), impl.NumOut{N: n, At: 2 + size})
		for cut := range len(b) {
			wantNum(t, "cut", impl.GetNum(b[:cut], 0), impl.NumOut{Code: impl.ErrShort})
		}
	}
	row := ""
	for _, n := range manyNums() {
		row += impl.PutNum(n)
	}
	at := int64(0)
	for _, n := range manyNums() {
		got := impl.GetNum(row, at)
		if got.N != n || got.Code != impl.OK {
			t.Fatalf("in a row: got %+v, want %d", got, n)
		}
		at = got.At
	}
	if at != int64(len(row)) {
		t.Errorf("in a row: ends at %d of %d", at, len(row))
	}
}

func TestPromise1NumFaults(t *testing.T) {
	nine := strings.Repeat("\xff", 9)
	low := strings.Repeat("\x80", 9)
	for _, c := range []struct {
		what string
		text string
		at   int64
		want impl.NumOut
	}{
		{"below 0", "\x00", -1, impl.NumOut{Code: impl.ErrForm}},
		{"far below 0", "\x00", math.MinInt64, impl.NumOut{Code: impl.ErrForm}},
		{"below 0 of the empty text", "", -1, impl.NumOut{Code: impl.ErrForm}},
		{"empty", "", 0, impl.NumOut{Code: impl.ErrShort}},
		{"at the end", "\x00", 1, impl.NumOut{Code: impl.ErrShort}},
		{"behind the end", "\x00", 2, impl.NumOut{Code: impl.ErrShort}},
		{"far behind the end", "\x00", math.MaxInt64, impl.NumOut{Code: impl.ErrShort}},
		{"no last byte", "\x80", 0, impl.NumOut{Code: impl.ErrShort}},
		{"nine bytes without a last one", nine, 0, impl.NumOut{Code: impl.ErrShort}},
		{"a tenth byte of 0", low + "\x00", 0, impl.NumOut{Code: impl.ErrSyntax}},
		{"a tenth byte of 1", low + "\x01", 0, impl.NumOut{N: 1 << 62, At: 10}},
		{"a tenth byte of 2", nine + "\x02", 0, impl.NumOut{Code: impl.ErrSyntax}},
		{"a tenth byte of 127", nine + "\x7f", 0, impl.NumOut{Code: impl.ErrSyntax}},
		{"a tenth byte of 128", nine + "\x80", 0, impl.NumOut{Code: impl.ErrSyntax}},
		{"a tenth byte of 129", nine + "\x81\x00", 0, impl.NumOut{Code: impl.ErrSyntax}},
		{"a tenth byte of 255", nine + "\xff\x01", 0, impl.NumOut{Code: impl.ErrSyntax}},
		{"eleven bytes", low + "\x80\x01", 0, impl.NumOut{Code: impl.ErrSyntax}},
		{"0 in two bytes", "\x80\x00", 0, impl.NumOut{Code: impl.ErrSyntax}},
		{"-1 in two bytes", "\x81\x00", 0, impl.NumOut{Code: impl.ErrSyntax}},
		{"64 in three bytes", "\x80\x81\x00", 0, impl.NumOut{Code: impl.ErrSyntax}},
		{"nine bytes, the last of them 0", nine[:8] + "\x00", 0, impl.NumOut{Code: impl.ErrSyntax}},
		{"nine bytes, the last of them 1", low[:8] + "\x01", 0, impl.NumOut{N: 1 << 55, At: 9}},
		{"0 behind something", "\xff\x00", 1, impl.NumOut{At: 2}},
	} {
		wantNum(t, c.what, impl.GetNum(c.text, c.at), c.want)
	}
}

func TestPromise1NumSizes(t *testing.T) {
	full := strings.Repeat("\x03", impl.MaxBytes)
	wantNum(t, "last of MaxBytes", impl.GetNum(full, impl.MaxBytes-1), impl.NumOut{N: -2, At: impl.MaxBytes})
	wantNum(t, "behind MaxBytes", impl.GetNum(full, impl.MaxBytes), impl.NumOut{Code: impl.ErrShort})
	over := full + "\x03"
	for _, at := range []int64{-1, 0, impl.MaxBytes, impl.MaxBytes + 1} {
		wantNum(t, "one byte more", impl.GetNum(over, at), impl.NumOut{Code: impl.ErrSize})
		wantText(t, "one byte more", impl.GetText(over, at), impl.TextOut{Code: impl.ErrSize})
	}
}

func TestPromise1TextsComeBack(t *testing.T) {
	for _, text := range manyTexts() {
		b := impl.PutText(text)
		if want := string(binary.AppendVarint(nil, int64(len(text)))) + text; b != want {
			t.Errorf("PutText of %d bytes: got %.40q, want %.40q", len(text), b, want)
		}
		size := int64(len(b))
		wantText(t, "alone", impl.GetText(b, 0), impl.TextOut{Text: text, At: size})
		wantText(t, "between others", impl.GetText("\xff\xff"+b+"zz", 2), impl.TextOut{Text: text, At: 2 + size})
		wantText(t, "one byte short", impl.GetText(b[:size-1], 0), impl.TextOut{Code: impl.ErrShort})
	}
}

func TestPromise1TextSizes(t *testing.T) {
	for _, size := range []int{impl.MaxBytes - 2, impl.MaxBytes - 1, impl.MaxBytes} {
		text := mixedText(size, 3)
		if b := impl.PutText(text); b != impl.PutNum(int64(size))+text {
			t.Errorf("PutText of %d bytes: got %d bytes", size, len(b))
		}
	}
	if got := impl.PutText(mixedText(impl.MaxBytes+1, 3)); got != "" {
		t.Errorf("PutText of one byte more: got %d bytes", len(got))
	}
	whole := mixedText(impl.MaxBytes-2, 3)
	wantText(t, "fits in", impl.GetText(impl.PutText(whole), 0), impl.TextOut{Text: whole, At: impl.MaxBytes})
	wantText(t, "fits in no more", impl.GetText(impl.PutText(whole+"x"), 0), impl.TextOut{Code: impl.ErrSize})
}

func TestPromise1TextFaults(t *testing.T) {
	nine := strings.Repeat("\xff", 9)
	for _, c := range []struct {
		what string
		text string
		at   int64
		want impl.TextOut
	}{
		{"below 0", "\x02a", -1, impl.TextOut{Code: impl.ErrForm}},
		{"far below 0", "\x02a", math.MinInt64, impl.TextOut{Code: impl.ErrForm}},
		{"empty", "", 0, impl.TextOut{Code: impl.ErrShort}},
		{"at the end", "\x02a", 2, impl.TextOut{Code: impl.ErrShort}},
		{"behind the end", "\x02a", 3, impl.TextOut{Code: impl.ErrShort}},
		{"far behind the end", "\x02a", math.MaxInt64, impl.TextOut{Code: impl.ErrShort}},
		{"a length without a last byte", "\x82", 0, impl.TextOut{Code: impl.ErrShort}},
		{"a length of needless bytes", "\x82\x00a", 0, impl.TextOut{Code: impl.ErrSyntax}},
		{"a length of a tenth byte above 1", nine + "\x02", 0, impl.TextOut{Code: impl.ErrSyntax}},
		{"a length of -1", impl.PutNum(-1) + "a", 0, impl.TextOut{Code: impl.ErrSyntax}},
		{"the least length", impl.PutNum(math.MinInt64), 0, impl.TextOut{Code: impl.ErrSyntax}},
		{"the greatest length", impl.PutNum(math.MaxInt64), 0, impl.TextOut{Code: impl.ErrSyntax}},
		{"a length of MaxBytes and one", impl.PutNum(impl.MaxBytes+1) + "a", 0, impl.TextOut{Code: impl.ErrSyntax}},
		{"a length of MaxBytes", impl.PutNum(impl.MaxBytes) + "a", 0, impl.TextOut{Code: impl.ErrShort}},
		{"a length and no text", "\x02", 0, impl.TextOut{Code: impl.ErrShort}},
		{"a text that ends too early", "\x06ab", 0, impl.TextOut{Code: impl.ErrShort}},
		{"an empty one", "\x00", 0, impl.TextOut{At: 1}},
		{"an empty one behind something", "\xff\x00a", 1, impl.TextOut{At: 2}},
		{"one behind something", "\xff\x04abc", 1, impl.TextOut{Text: "ab", At: 4}},
	} {
		wantText(t, c.what, impl.GetText(c.text, c.at), c.want)
	}
}

func TestPromise1NewMemory(t *testing.T) {
	text := mixedText(100, 5)
	b := impl.PutText(text)
	sealed := impl.Seal(text)
	if sameMemory(b, text) || sameMemory(sealed, text) {
		t.Error("what is put shares memory with its argument")
	}
	if sameMemory(impl.GetText(b, 0).Text, b) || sameMemory(impl.Unseal(sealed).Text, sealed) {
		t.Error("what is read shares memory with its argument")
	}
}

func TestNames(t *testing.T) {
	for _, name := range []string{"a", "z", "a0", "a9", "a_", "az_09", "abcdefghij0123456789", "end", "rec"} {
		if !impl.NameRight(name) {
			t.Errorf("NameRight(%q): got false", name)
		}
	}
	wrong := []string{"", "_", "_a", "0", "9a", "A", "aB", "a b", "a-", "a.", "a\n", "a\x00", " a", "a ", "\xc3\xa4", "a\xc3\xa4",
		"abcdefghij01234567890", strings.Repeat("a", impl.MaxBytes), strings.Repeat("a", impl.MaxBytes+1)}
	for _, name := range wrong {
		if impl.NameRight(name) {
			t.Errorf("NameRight(%.30q): got true", name)
		}
	}
	for b := range 256 {
		letter := b >= 'a' && b <= 'z'
		if got := impl.NameRight(string([]byte{byte(b)})); got != letter {
			t.Errorf("NameRight of the byte %d: got %v", b, got)
		}
		within := letter || b >= '0' && b <= '9' || b == '_'
		if got := impl.NameRight(string([]byte{'a', byte(b), 'a'})); got != within {
			t.Errorf("NameRight with the byte %d within: got %v", b, got)
		}
	}
}

func TestPromise2Crc(t *testing.T) {
	texts := append(manyTexts(), "123456789", mixedText(impl.MaxBytes, 3))
	for _, text := range texts {
		if got, want := impl.Crc(text), int64(crc32.ChecksumIEEE([]byte(text))); got != want {
			t.Errorf("Crc of %d bytes: got %d, want %d", len(text), got, want)
		}
	}
	for b := range 256 {
		text := string([]byte{byte(b)})
		if got, want := impl.Crc(text), int64(crc32.ChecksumIEEE([]byte(text))); got != want {
			t.Errorf("Crc of the byte %d: got %d, want %d", b, got, want)
		}
	}
	if got := impl.Crc("123456789"); got != 0xCBF43926 {
		t.Errorf("Crc of the digits: got %x", got)
	}
	if got := impl.Crc(mixedText(impl.MaxBytes+1, 3)); got != 0 {
		t.Errorf("Crc of one byte more: got %d", got)
	}
}

func TestPromise2CrcGoesOn(t *testing.T) {
	for _, first := range manyTexts() {
		for _, second := range manyTexts() {
			want := int64(crc32.ChecksumIEEE([]byte(first + second)))
			if got := impl.CrcMore(impl.Crc(first), second); got != want {
				t.Errorf("CrcMore of %d and %d bytes: got %d, want %d", len(first), len(second), got, want)
			}
		}
	}
	full := mixedText(impl.MaxBytes, 3)
	want := int64(crc32.ChecksumIEEE([]byte(full + full)))
	if got := impl.CrcMore(impl.Crc(full), full); got != want {
		t.Errorf("CrcMore of MaxBytes twice: got %d, want %d", got, want)
	}
}

func TestPromise2CrcMoreEdges(t *testing.T) {
	for _, crc := range []int64{-1, 1 << 32, 1<<32 + 1, math.MinInt64, math.MaxInt64} {
		for _, text := range []string{"", "a"} {
			if got := impl.CrcMore(crc, text); got != 0 {
				t.Errorf("CrcMore(%d, %q): got %d", crc, text, got)
			}
		}
	}
	for _, crc := range []int64{0, 1, 1 << 31, 1<<32 - 1} {
		if got := impl.CrcMore(crc, ""); got != crc {
			t.Errorf("CrcMore(%d, empty): got %d", crc, got)
		}
		if got, want := impl.CrcMore(crc, "ab"), int64(crc32.Update(uint32(crc), crc32.IEEETable, []byte("ab"))); got != want {
			t.Errorf("CrcMore(%d, ab): got %d, want %d", crc, got, want)
		}
		if got := impl.CrcMore(crc, mixedText(impl.MaxBytes+1, 3)); got != 0 {
			t.Errorf("CrcMore(%d, one byte more): got %d", crc, got)
		}
	}
}

func TestPromise2SealedComesBack(t *testing.T) {
	texts := append(manyTexts(), mixedText(impl.MaxBytes-5, 3), mixedText(impl.MaxBytes-4, 3))
	for _, text := range texts {
		sealed := impl.Seal(text)
		want := string(binary.LittleEndian.AppendUint32([]byte(text), crc32.ChecksumIEEE([]byte(text))))
		if sealed != want {
			t.Errorf("Seal of %d bytes: got %d bytes, ending in %q, want %q", len(text), len(sealed), tail(sealed), tail(want))
		}
		wantText(t, "sealed", impl.Unseal(sealed), impl.TextOut{Text: text})
	}
	for _, over := range []int{3, 2, 1, 0, -1} {
		if got := impl.Seal(mixedText(impl.MaxBytes-over, 3)); got != "" {
			t.Errorf("Seal of MaxBytes less %d: got %d bytes", over, len(got))
		}
	}
}

func tail(text string) string {
	return text[max(0, len(text)-4):]
}

func TestPromise2TurnedIsRefused(t *testing.T) {
	for _, text := range manyTexts() {
		sealed := []byte(impl.Seal(text))
		turns := []byte{1, 2, 64, 128, 255}
		step := 1 + len(sealed)/300
		for at := 0; at < len(sealed); at += step {
			for _, turn := range turns {
				sealed[at] ^= turn
				wantText(t, "turned", impl.Unseal(string(sealed)), impl.TextOut{Code: impl.ErrSum})
				sealed[at] ^= turn
			}
		}
	}
	sealed := []byte(impl.Seal("who"))
	for at := range sealed {
		for turn := 1; turn < 256; turn++ {
			sealed[at] ^= byte(turn)
			wantText(t, "turned", impl.Unseal(string(sealed)), impl.TextOut{Code: impl.ErrSum})
			sealed[at] ^= byte(turn)
		}
	}
}

func TestPromise2UnsealFaults(t *testing.T) {
	sealed := impl.Seal("who")
	for _, c := range []struct {
		what string
		text string
		want impl.TextOut
	}{
		{"nothing", "", impl.TextOut{Code: impl.ErrShort}},
		{"one byte", "\x00", impl.TextOut{Code: impl.ErrShort}},
		{"three bytes", "\x00\x00\x00", impl.TextOut{Code: impl.ErrShort}},
		{"the sealed empty text", "\x00\x00\x00\x00", impl.TextOut{}},
		{"four other bytes", "\x00\x00\x00\x01", impl.TextOut{Code: impl.ErrSum}},
		{"the last byte lost", sealed[:len(sealed)-1], impl.TextOut{Code: impl.ErrSum}},
		{"the first byte lost", sealed[1:], impl.TextOut{Code: impl.ErrSum}},
		{"one byte more", sealed + "\x00", impl.TextOut{Code: impl.ErrSum}},
		{"the sum's highest byte first", "a\xe8\xb7\xbe\x43", impl.TextOut{Code: impl.ErrSum}},
		{"the sum's lowest byte first", "a\x43\xbe\xb7\xe8", impl.TextOut{Text: "a"}},
		{"MaxBytes", strings.Repeat("a", impl.MaxBytes), impl.TextOut{Code: impl.ErrSum}},
		{"MaxBytes and one", strings.Repeat("a", impl.MaxBytes+1), impl.TextOut{Code: impl.ErrSize}},
	} {
		wantText(t, c.what, impl.Unseal(c.text), c.want)
	}
	// The sum is right, and yet it is too long to be asked for one.
	long := mixedText(impl.MaxBytes-3, 3)
	right := string(binary.LittleEndian.AppendUint32([]byte(long), crc32.ChecksumIEEE([]byte(long))))
	wantText(t, "too long, of a right sum", impl.Unseal(right), impl.TextOut{Code: impl.ErrSize})
}
