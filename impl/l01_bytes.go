package impl

import (
	"errors"
	"strconv"
	"strings"
)

// Constants, see chapter 1.
const (
	OK        = 0
	ErrForm   = 1
	ErrSize   = 2
	ErrSyntax = 3
	ErrShort  = 4
	ErrSum    = 5
	ErrNone   = 6
	ErrThere  = 7
	ErrRange  = 8
	ErrFull   = 9
	ErrState  = 10
	MaxBytes  = 8000
	MaxList   = 400
	MaxTime   = 1000000
)

const (
	maxNumBytes  = 10
	maxNameBytes = 20
	sumBytes     = 4
	maxSum       = 1<<32 - 1
	crcPattern   = 0xEDB88320
)

// NumOut is a thing of chapter 2.
type NumOut struct {
	N    int64
	At   int64
	Code int64
}

// TextOut is a thing of chapter 2.
type TextOut struct {
	Text string
	At   int64
	Code int64
}

// bytesFault carries the code of what is wrong with bytes from where it is seen to the face that tells it.
type bytesFault struct {
	code int64
}

func (f bytesFault) Error() string {
	return "bytes are wrong, code " + strconv.FormatInt(f.code, 10)
}

// codeOfBytes: the code that a fault of bytes carries.
func codeOfBytes(err error) int64 {
	var fault bytesFault
	if errors.As(err, &fault) {
		return fault.code
	}
	return OK
}

// tooLong: is it a text that every call refuses?
func tooLong(text string) bool {
	return len(text) > MaxBytes
}

// joined: both texts, one behind the other, in memory of their own.
func joined(first string, second string) string {
	out := make([]byte, len(first)+len(second))
	n := copy(out, first)
	copy(out[n:], second)
	return string(out)
}

// folded lays the numbers below 0 between the others, so that those near 0 need few bytes on either side.
func folded(n int64) uint64 {
	if n < 0 {
		return ^(uint64(n) << 1)
	}
	return uint64(n) << 1
}

// unfolded: the number of which that is folded.
func unfolded(u uint64) int64 {
	if u&1 == 1 {
		return int64(^(u >> 1))
	}
	return int64(u >> 1)
}

// PutNum: see chapter 2.
func PutNum(n int64) string {
	u := folded(n)
	out := make([]byte, 0, maxNumBytes)
	for u >= 128 {
		out = append(out, byte(u&127)|128)
		u >>= 7
	}
	return string(append(out, byte(u)))
}

// readNum: the number at a place that is not below 0, and the place behind it.
func readNum(text string, at int64) (int64, int64, error) {
	var u uint64
	var b byte
	var many int64
	var code int64 = ErrSyntax

more:
	if at >= int64(len(text)) {
		code = ErrShort
		goto wrong
	}
	b = text[at]
	at++
	many++
	// Of 64 bits nine bytes leave one to the tenth: this also ends the loop there.
	if many == maxNumBytes && b > 1 {
		goto wrong
	}
	u |= uint64(b&127) << (7 * (many - 1))
	if b < 128 {
		goto last
	}
	goto more

last:
	// A nought on top adds nothing to the number: it was written with more bytes than are needed.
	if b == 0 && many > 1 {
		goto wrong
	}
	return unfolded(u), at, nil

wrong:
	return 0, 0, bytesFault{code}
}

// numAt: readNum of a text and a place as a face takes them.
func numAt(text string, at int64) (int64, int64, error) {
	if tooLong(text) {
		return 0, 0, bytesFault{ErrSize}
	}
	if at < 0 {
		return 0, 0, bytesFault{ErrForm}
	}
	return readNum(text, at)
}

// GetNum: see chapter 2.
func GetNum(text string, at int64) NumOut {
	n, behind, err := numAt(text, at)
	if err != nil {
		return NumOut{Code: codeOfBytes(err)}
	}
	return NumOut{N: n, At: behind}
}

// PutText: see chapter 2.
func PutText(t string) string {
	if tooLong(t) {
		return ""
	}
	return joined(PutNum(int64(len(t))), t)
}

// textAt: where the text begins whose length stands at that place, and where it ends.
func textAt(text string, at int64) (int64, int64, error) {
	size, from, err := numAt(text, at)
	if err != nil {
		return 0, 0, err
	}
	if size < 0 || size > MaxBytes {
		return 0, 0, bytesFault{ErrSyntax}
	}
	if size > int64(len(text))-from {
		return 0, 0, bytesFault{ErrShort}
	}
	return from, from + size, nil
}

// GetText: see chapter 2.
func GetText(text string, at int64) TextOut {
	from, to, err := textAt(text, at)
	if err != nil {
		return TextOut{Code: codeOfBytes(err)}
	}
	return TextOut{Text: strings.Clone(text[from:to]), At: to}
}

// isLetter: may a name begin with it?
func isLetter(b byte) bool {
	return b >= 'a' && b <= 'z'
}

// isNameByte: may it stand in a name behind the first byte?
func isNameByte(b byte) bool {
	return isLetter(b) || b >= '0' && b <= '9' || b == '_'
}

// NameRight: see chapter 2.
func NameRight(t string) bool {
	if len(t) < 1 || len(t) > maxNameBytes || !isLetter(t[0]) {
		return false
	}
	for i := 1; i < len(t); i++ {
		if !isNameByte(t[i]) {
			return false
		}
	}
	return true
}

// crcByte: the register behind one more byte.
func crcByte(register uint32, b byte) uint32 {
	// The byte's bits meet the register's lowest ones as they come down, so all eight may be put in at once.
	register ^= uint32(b)
	for range 8 {
		low := register & 1
		register >>= 1
		if low == 1 {
			register ^= crcPattern
		}
	}
	return register
}

// Crc: see chapter 2.
func Crc(text string) int64 {
	return CrcMore(0, text)
}

// CrcMore: see chapter 2.
func CrcMore(crc int64, text string) int64 {
	if tooLong(text) || crc < 0 || crc > maxSum {
		return 0
	}
	// Turning a CRC's bits gives back the register that it was taken from; 0 gives that of the empty text.
	register := ^uint32(crc)
	for i := 0; i < len(text); i++ {
		register = crcByte(register, text[i])
	}
	return int64(^register)
}

// sumText: the four bytes of a CRC, the lowest first.
func sumText(crc int64) string {
	out := make([]byte, sumBytes)
	for i := range out {
		out[i] = byte(crc >> (8 * i))
	}
	return string(out)
}

// Seal: see chapter 2.
func Seal(text string) string {
	if len(text) > MaxBytes-sumBytes {
		return ""
	}
	return joined(text, sumText(Crc(text)))
}

// unsealed: what was sealed so.
func unsealed(text string) (string, error) {
	if tooLong(text) {
		return "", bytesFault{ErrSize}
	}
	if len(text) < sumBytes {
		return "", bytesFault{ErrShort}
	}
	inner := text[:len(text)-sumBytes]
	if Seal(inner) != text {
		return "", bytesFault{ErrSum}
	}
	return strings.Clone(inner), nil
}

// Unseal: see chapter 2.
func Unseal(text string) TextOut {
	inner, err := unsealed(text)
	if err != nil {
		return TextOut{Code: codeOfBytes(err)}
	}
	return TextOut{Text: inner}
}
