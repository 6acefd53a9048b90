package impl

import (
	"errors"
	"strconv"
)

// Constants, see chapter 1.
const (
	OK        = 0
	ErrForm   = 1
	ErrSize   = 2
	ErrSyntax = 3
	ErrShort  = 4
	ErrSum    = 5
	ErrNone   = 6
	ErrThere  = 7
	ErrRange  = 8
	ErrFull   = 9
	ErrState  = 10
	ErrClash  = 11
	MaxBytes  = 8000
	MaxList   = 400
	MaxTime   = 1000000
)

const (
	maxName    = 20
	numBytes   = 10
	tenthShift = 63 // nine bytes of seven bits stand ahead of the tenth, so one bit is left for it
	sumBytes   = 4
	crcTurn    = 0xEDB88320
	maxCrc     = 1<<32 - 1
)

// NumOut is a thing of chapter 2.
type NumOut struct {
	N    int64
	At   int64
	Code int64
}

// TextOut is a thing of chapter 2.
type TextOut struct {
	Text string
	At   int64
	Code int64
}

// readFault says with which code bytes are refused.
type readFault struct {
	code int64
}

func (f readFault) Error() string {
	return "bytes are refused with code " + strconv.FormatInt(f.code, 10)
}

// reading goes through a text from its beginning on.
// The first fault stays: behind it only zero values are read, so that it need be asked for but once, at the end.
type reading struct {
	text string
	at   int64
	err  error
}

// codeOf takes the code out of what a read told; without a fault it is OK.
func codeOf(err error) int64 {
	var f readFault
	if errors.As(err, &f) {
		return f.code
	}
	return OK
}

// PutNum: see chapter 2.
func PutNum(n int64) string {
	var room [numBytes]byte
	u := fold(n)
	used := 0
	for u >= 128 {
		room[used] = byte(u&127) | 128
		u >>= 7
		used++
	}
	room[used] = byte(u)
	return string(room[:used+1])
}

// GetNum: see chapter 2.
func GetNum(text string, at int64) NumOut {
	n, behind, err := readNum(text, at)
	return NumOut{N: n, At: behind, Code: codeOf(err)}
}

// PutText: see chapter 2.
func PutText(t string) string {
	if len(t) > MaxBytes {
		return ""
	}
	return join(PutNum(int64(len(t))), t)
}

// GetText: see chapter 2.
func GetText(text string, at int64) TextOut {
	t, behind, err := readText(text, at)
	return TextOut{Text: t, At: behind, Code: codeOf(err)}
}

// NameRight: see chapter 2.
func NameRight(t string) bool {
	if len(t) == 0 || len(t) > maxName || !isLetter(t[0]) {
		return false
	}
	for i := 1; i < len(t); i++ {
		if !isLetter(t[i]) && !isDigit(t[i]) && t[i] != '_' {
			return false
		}
	}
	return true
}

// Crc: see chapter 2.
func Crc(text string) int64 {
	return CrcMore(0, text) // 0 is the CRC of the empty text: its register turned is all ones
}

// CrcMore: see chapter 2.
func CrcMore(crc int64, text string) int64 {
	if len(text) > MaxBytes || crc < 0 || crc > maxCrc {
		return 0
	}
	register := ^uint32(crc)
	for i := 0; i < len(text); i++ {
		register = crcByte(register, text[i])
	}
	return int64(^register)
}

// Seal: see chapter 2.
func Seal(text string) string {
	if len(text) > MaxBytes-sumBytes {
		return ""
	}
	return join(text, sumOf(text))
}

// Unseal: see chapter 2.
func Unseal(text string) TextOut {
	if len(text) > MaxBytes {
		return TextOut{Code: ErrSize}
	}
	if len(text) < sumBytes {
		return TextOut{Code: ErrShort}
	}
	inner := text[:len(text)-sumBytes]
	if Seal(inner) != text {
		return TextOut{Code: ErrSum}
	}
	return TextOut{Text: join(inner)}
}

// fold puts the sign into the lowest bit, so that numbers near 0 on both sides need few bytes.
func fold(n int64) uint64 {
	u := uint64(n) << 1
	if n < 0 {
		return ^u
	}
	return u
}

func unfold(u uint64) int64 {
	half := int64(u >> 1)
	if u&1 == 1 {
		return ^half
	}
	return half
}

// placeCode comes ahead of any byte that is read: the size of the text is asked first, then the place.
func placeCode(text string, at int64) int64 {
	if len(text) > MaxBytes {
		return ErrSize
	}
	if at < 0 {
		return ErrForm
	}
	return OK
}

func readNum(text string, at int64) (int64, int64, error) {
	var u uint64
	var b byte
	shift := 0
	code := placeCode(text, at)
	if code != OK {
		goto wrong
	}
more:
	if at >= int64(len(text)) {
		code = ErrShort
		goto wrong
	}
	b = text[at]
	at++
	if shift == tenthShift && b > 1 {
		code = ErrSyntax
		goto wrong
	}
	u |= uint64(b&127) << shift
	if b < 128 {
		goto last
	}
	shift += 7
	goto more
last:
	// A highest byte of 0 adds nothing: the number could have been written without it.
	if b == 0 && shift > 0 {
		code = ErrSyntax
		goto wrong
	}
	return unfold(u), at, nil
wrong:
	return 0, 0, readFault{code: code}
}

func readText(text string, at int64) (string, int64, error) {
	n, from, err := readNum(text, at)
	if err != nil {
		return "", 0, err
	}
	if n < 0 || n > MaxBytes {
		return "", 0, readFault{code: ErrSyntax}
	}
	if n > int64(len(text))-from {
		return "", 0, readFault{code: ErrShort}
	}
	return join(text[from : from+n]), from + n, nil
}

func (r *reading) num() int64 {
	if r.err != nil {
		return 0
	}
	n, behind, err := readNum(r.text, r.at)
	r.at, r.err = behind, err
	return n
}

func (r *reading) word() string {
	if r.err != nil {
		return ""
	}
	t, behind, err := readText(r.text, r.at)
	r.at, r.err = behind, err
	return t
}

// count reads how many of something come; more than may be are none, so that nobody makes room for them.
func (r *reading) count(most int64) int64 {
	n := r.num()
	if n < 0 || n > most {
		r.err = readFault{code: ErrSyntax}
		return 0
	}
	return n
}

// whole: has all of the text been read, without a fault?
func (r *reading) whole() bool {
	return r.err == nil && r.at == int64(len(r.text))
}

// join makes new memory even of a single text: an answer shares none with an argument.
func join(texts ...string) string {
	size := 0
	for _, t := range texts {
		size += len(t)
	}
	room := make([]byte, size)
	at := 0
	for _, t := range texts {
		at += copy(room[at:], t)
	}
	return string(room)
}

func isLetter(b byte) bool {
	return b >= 'a' && b <= 'z'
}

func isDigit(b byte) bool {
	return b >= '0' && b <= '9'
}

func timeRight(n int64) bool {
	return n >= 0 && n <= MaxTime
}

func crcByte(register uint32, b byte) uint32 {
	register ^= uint32(b) // the eight bits are put together at once; the shifts bring each down in its turn
	for range 8 {
		lowest := register & 1
		register >>= 1
		if lowest == 1 {
			register ^= crcTurn
		}
	}
	return register
}

func sumOf(text string) string {
	crc := Crc(text)
	var room [sumBytes]byte
	for i := range room {
		room[i] = byte(crc >> (8 * i))
	}
	return string(room[:])
}
