package tests

import (
	"encoding/binary"
	"fmt"
	"math"
	"strings"
	"testing"

	"loop.example/g00366/impl"
)

func TestPutTextBytes(t *testing.T) {
	all := filled(impl.MaxBytes)
	for size := 0; size <= impl.MaxBytes; size++ {
		want := string(binary.AppendVarint(nil, int64(size))) + all[:size]
		if got := impl.PutText(all[:size]); got != want {
			t.Fatalf("PutText of %d bytes: got %d bytes, want %d", size, len(got), len(want))
		}
	}
	if got := impl.PutText(filled(impl.MaxBytes + 1)); got != "" {
		t.Errorf("PutText of a text too long: got %d bytes, want none", len(got))
	}
}

// The bytes of a text of MaxBytes less 1, or MaxBytes, are a text too long: these two don't fit in.
func TestTextsComeBack(t *testing.T) {
	all := filled(impl.MaxBytes)
	for size := 0; size <= impl.MaxBytes; size++ {
		text := impl.PutText(all[:size])
		want := impl.TextOut{Text: all[:size], At: int64(len(text))}
		if len(text) > impl.MaxBytes {
			want = impl.TextOut{Code: impl.ErrSize}
		}
		wantText(t, fmt.Sprint(size, " bytes"), impl.GetText(text, 0), want)
	}
}

func TestTextsComeBackBehindOthers(t *testing.T) {
	for _, size := range []int{0, 1, 2, 63, 64, 65, 200, 4000, 7980} {
		t1 := filled(size)
		text := "\xff\x80\x00" + impl.PutText(t1)
		want := impl.TextOut{Text: t1, At: int64(len(text))}
		wantText(t, fmt.Sprint(size, " bytes at the end"), impl.GetText(text, 3), want)
		wantText(t, fmt.Sprint(size, " bytes between"), impl.GetText(text+"\xffab", 3), want)
	}
	row := impl.PutText("ab") + impl.PutText("") + impl.PutText("c")
	wantText(t, "first", impl.GetText(row, 0), impl.TextOut{Text: "ab", At: 3})
	wantText(t, "second", impl.GetText(row, 3), impl.TextOut{Text: "", At: 4})
	wantText(t, "third", impl.GetText(row, 4), impl.TextOut{Text: "c", At: 6})
	wantText(t, "none", impl.GetText(row, 6), impl.TextOut{Code: impl.ErrShort})
}

func TestWrongTexts(t *testing.T) {
	much := strings.Repeat("a", 7000)
	wrong := []struct {
		what string
		text string
		at   int64
		code int64
	}{
		{"length -1", impl.PutNum(-1) + much, 0, impl.ErrSyntax},
		{"length -64", impl.PutNum(-64) + much, 0, impl.ErrSyntax},
		{"the least length", impl.PutNum(math.MinInt64) + much, 0, impl.ErrSyntax},
		{"the greatest length", impl.PutNum(math.MaxInt64) + much, 0, impl.ErrSyntax},
		{"a length above MaxBytes", impl.PutNum(impl.MaxBytes+1) + much, 0, impl.ErrSyntax},
		{"a length above MaxBytes, and no text", impl.PutNum(impl.MaxBytes + 1), 0, impl.ErrSyntax},
		{"a length of MaxBytes, and less text", impl.PutNum(impl.MaxBytes) + much, 0, impl.ErrShort},
		{"a length of MaxBytes, and as much text as fits in", impl.PutNum(impl.MaxBytes) + strings.Repeat("a", impl.MaxBytes-2), 0, impl.ErrShort},
		{"a length, and no text", impl.PutNum(1), 0, impl.ErrShort},
		{"one byte too few", impl.PutNum(3) + "ab", 0, impl.ErrShort},
		{"one byte too few, behind others", "abcd" + impl.PutNum(3) + "ab", 4, impl.ErrShort},
		{"a length with more bytes than are needed", "\x84\x00ab", 0, impl.ErrSyntax},
		{"such a length, and too few bytes", "\x84\x00a", 0, impl.ErrSyntax},
		{"a length that ends too early", "ab\x84", 2, impl.ErrShort},
		{"at below 0, and a length above MaxBytes", impl.PutNum(impl.MaxBytes + 1), -1, impl.ErrForm},
		{"a text too long, and a length below 0", impl.PutNum(-1) + strings.Repeat("a", impl.MaxBytes), 0, impl.ErrSize},
	}
	for _, w := range wrong {
		wantText(t, w.what, impl.GetText(w.text, w.at), impl.TextOut{Code: w.code})
	}
}

func TestTextsAreNewMemory(t *testing.T) {
	given := filled(100)
	put := impl.PutText(given)
	if sharesMemory(put, given) {
		t.Error("PutText hands out what it was given")
	}
	if sharesMemory(impl.GetText(put, 0).Text, put) {
		t.Error("GetText hands out what it was given")
	}
	sealed := impl.Seal(given)
	if sharesMemory(sealed, given) {
		t.Error("Seal hands out what it was given")
	}
	if sharesMemory(impl.Unseal(sealed).Text, sealed) {
		t.Error("Unseal hands out what it was given")
	}
}

func TestNames(t *testing.T) {
	twenty := "abcdefghij0123456_89"
	known := []struct {
		name string
		want bool
	}{
		{"", false},
		{"a", true},
		{"z", true},
		{twenty, true},
		{twenty + "a", false},
		{twenty[:19], true},
		{strings.Repeat("z", 20), true},
		{strings.Repeat("z", 21), false},
		{"a\u00e9", false},
		{"a b", false},
		{"a\n", false},
		{"a\x00", false},
		{strings.Repeat("a", impl.MaxBytes+1), false},
	}
	for _, k := range known {
		if got := impl.NameRight(k.name); got != k.want {
			t.Errorf("NameRight(%q): got %t, want %t", k.name, got, k.want)
		}
	}
}

func TestNamesOfEachByte(t *testing.T) {
	for i := range 256 {
		b := string([]byte{byte(i)})
		letter := strings.Contains("abcdefghijklmnopqrstuvwxyz", b)
		later := letter || strings.Contains("0123456789_", b)
		if got := impl.NameRight(b); got != letter {
			t.Errorf("NameRight(%q): got %t", b, got)
		}
		if got := impl.NameRight(b + "a"); got != letter {
			t.Errorf("NameRight(%q): got %t", b+"a", got)
		}
		for _, name := range []string{"a" + b, "a" + b + "a", strings.Repeat("a", 19) + b} {
			if got := impl.NameRight(name); got != later {
				t.Errorf("NameRight(%q): got %t", name, got)
			}
		}
	}
}
