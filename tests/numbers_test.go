package tests

import (
	"encoding/binary"
	"fmt"
	"math"
	"math/rand"
	"strings"
	"testing"

	"loop.example/g00366/impl"
)

// someNumbers: the edges, those around each power of two, and many others of all sizes.
func someNumbers() []int64 {
	out := []int64{0, 1, -1, 2, -2, 63, 64, -63, -64, -65, 127, 128, 300, 8191, 8192, impl.MaxBytes, impl.MaxTime,
		math.MinInt64, math.MinInt64 + 1, math.MaxInt64, math.MaxInt64 - 1}
	for shift := range 63 {
		p := int64(1) << shift
		out = append(out, p-1, p, p+1, -p-1, -p, -p+1)
	}
	source := rand.New(rand.NewSource(1))
	for range 5000 {
		n := int64(source.Uint64()) >> source.Intn(64)
		out = append(out, n, -n)
	}
	return out
}

func TestPutNumBytes(t *testing.T) {
	known := []struct {
		n    int64
		text string
	}{
		{0, "\x00"},
		{-1, "\x01"},
		{1, "\x02"},
		{63, "\x7e"},
		{-64, "\x7f"},
		{64, "\x80\x01"},
		{-65, "\x81\x01"},
		{8191, "\xfe\x7f"},
		{8192, "\x80\x80\x01"},
		{math.MaxInt64, "\xfe\xff\xff\xff\xff\xff\xff\xff\xff\x01"},
		{math.MinInt64, "\xff\xff\xff\xff\xff\xff\xff\xff\xff\x01"},
	}
	for _, k := range known {
		if got := impl.PutNum(k.n); got != k.text {
			t.Errorf("PutNum(%d): got %x, want %x", k.n, got, k.text)
		}
	}
	for _, n := range someNumbers() {
		if got, want := impl.PutNum(n), string(binary.AppendVarint(nil, n)); got != want {
			t.Errorf("PutNum(%d): got %x, want %x", n, got, want)
		}
	}
}

func TestNumbersComeBack(t *testing.T) {
	for _, n := range someNumbers() {
		text := impl.PutNum(n)
		size := int64(len(text))
		wantNum(t, fmt.Sprint("alone ", n), impl.GetNum(text, 0), impl.NumOut{N: n, At: size})
		wantNum(t, fmt.Sprint("between ", n), impl.GetNum("\xff\x80z"+text+"\xff\x00", 3), impl.NumOut{N: n, At: 3 + size})
	}
}

func TestNumberAtTheEndOfTheLongestText(t *testing.T) {
	for _, n := range []int64{0, 64, math.MinInt64, math.MaxInt64} {
		text := impl.PutNum(n)
		ahead := impl.MaxBytes - len(text)
		whole := strings.Repeat("\xff", ahead) + text
		wantNum(t, fmt.Sprint(n), impl.GetNum(whole, int64(ahead)), impl.NumOut{N: n, At: impl.MaxBytes})
	}
}

// nines: nine bytes, each of which says that the number goes on.
const nines = "\xff\xff\xff\xff\xff\xff\xff\xff\xff"

func TestWrongNumbers(t *testing.T) {
	wrong := []struct {
		what string
		text string
		at   int64
		code int64
	}{
		{"at below 0", "\x00", -1, impl.ErrForm},
		{"at far below 0", "\x00", math.MinInt64, impl.ErrForm},
		{"at below 0 of nothing", "", -1, impl.ErrForm},
		{"at below 0 of wrong bytes", nines + "\x02", -1, impl.ErrForm},
		{"nothing", "", 0, impl.ErrShort},
		{"at the end", "\x00", 1, impl.ErrShort},
		{"behind the end", "\x00", 2, impl.ErrShort},
		{"far behind the end", "\x00", math.MaxInt64, impl.ErrShort},
		{"about 2^32 behind the end", "\x00", 1 << 32, impl.ErrShort},
		{"one byte of more", "\x80", 0, impl.ErrShort},
		{"one byte of more behind others", "\x00\x00\x80", 2, impl.ErrShort},
		{"noughts that go on", "\x80\x80", 0, impl.ErrShort},
		{"nine bytes that go on", nines, 0, impl.ErrShort},
		{"two bytes for 0", "\x80\x00", 0, impl.ErrSyntax},
		{"two bytes for 63", "\xfe\x00", 0, impl.ErrSyntax},
		{"three bytes for 64", "\x80\x81\x00", 0, impl.ErrSyntax},
		{"ten bytes, the tenth 0", nines + "\x00", 0, impl.ErrSyntax},
		{"ten bytes of 0", strings.Repeat("\x80", 9) + "\x00", 0, impl.ErrSyntax},
		{"a tenth byte of 2", nines + "\x02", 0, impl.ErrSyntax},
		{"a tenth byte of 3", nines + "\x03", 0, impl.ErrSyntax},
		{"a tenth byte of 127", nines + "\x7f", 0, impl.ErrSyntax},
		{"a tenth byte of 128", nines + "\x80", 0, impl.ErrSyntax},
		{"a tenth byte of 129", nines + "\x81", 0, impl.ErrSyntax},
		{"a tenth byte of 255", nines + "\xff", 0, impl.ErrSyntax},
		{"eleven bytes", nines + "\x81\x00", 0, impl.ErrSyntax},
		{"eleven bytes behind others", "ab" + nines + "\x80\x01", 2, impl.ErrSyntax},
		{"a text too long", tooMuch(), 0, impl.ErrSize},
		{"a text too long, at below 0", tooMuch(), -1, impl.ErrSize},
		{"a text too long, at behind it", tooMuch(), math.MaxInt64, impl.ErrSize},
	}
	for _, w := range wrong {
		wantNum(t, w.what, impl.GetNum(w.text, w.at), impl.NumOut{Code: w.code})
		wantText(t, w.what+", as a length", impl.GetText(w.text, w.at), impl.TextOut{Code: w.code})
	}
}

// plainNum reads a number by the document's words: up to ten bytes, held against the one way to write what they say.
func plainNum(text string) impl.NumOut {
	size := 0
	for size < len(text) && size < 10 && text[size] >= 128 {
		size++
	}
	if size < 10 {
		if size == len(text) {
			return impl.NumOut{Code: impl.ErrShort}
		}
		size++
	}
	n, _ := binary.Varint([]byte(text[:size]))
	if string(binary.AppendVarint(nil, n)) != text[:size] {
		return impl.NumOut{Code: impl.ErrSyntax}
	}
	return impl.NumOut{N: n, At: int64(size)}
}

func TestNumbersOfAnyBytes(t *testing.T) {
	for first := range 256 {
		one := string([]byte{byte(first)})
		wantNum(t, fmt.Sprintf("%x", one), impl.GetNum(one, 0), plainNum(one))
		for second := range 256 {
			two := one + string([]byte{byte(second)})
			wantNum(t, fmt.Sprintf("%x", two), impl.GetNum(two, 0), plainNum(two))
		}
	}
	source := rand.New(rand.NewSource(2))
	kinds := []byte{0, 1, 2, 127, 128, 129, 254, 255}
	for range 50000 {
		text := make([]byte, source.Intn(13))
		for i := range text {
			text[i] = byte(128 + source.Intn(128))
			if source.Intn(6) == 0 {
				text[i] = kinds[source.Intn(len(kinds))]
			}
		}
		wantNum(t, fmt.Sprintf("%x", text), impl.GetNum(string(text), 0), plainNum(string(text)))
	}
}
