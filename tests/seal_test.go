package tests

import (
	"fmt"
	"hash/crc32"
	"math"
	"strings"
	"testing"

	"loop.example/g00366/impl"
)

const maxSealed = impl.MaxBytes - 4

// someSizes: all small ones, some greater ones, and the edges below that limit, with it.
func someSizes(limit int) []int {
	var out []int
	for size := range 130 {
		out = append(out, size)
	}
	for size := 130; size < limit-3; size += 371 {
		out = append(out, size)
	}
	return append(out, limit-3, limit-2, limit-1, limit)
}

func TestCrc(t *testing.T) {
	known := []struct {
		text string
		want int64
	}{
		{"", 0},
		{"a", 0xE8B7BE43},
		{"123456789", 0xCBF43926},
		{"\x00", 0xD202EF8D},
		{"\xff\xff\xff\xff", 0xFFFFFFFF},
	}
	for _, k := range known {
		if got := impl.Crc(k.text); got != k.want {
			t.Errorf("Crc(%q): got %x, want %x", k.text, got, k.want)
		}
	}
	for _, size := range someSizes(impl.MaxBytes) {
		text := filled(size)
		if got, want := impl.Crc(text), int64(crc32.ChecksumIEEE([]byte(text))); got != want {
			t.Errorf("Crc of %d bytes: got %x, want %x", size, got, want)
		}
	}
	if got := impl.Crc(filled(impl.MaxBytes + 1)); got != 0 {
		t.Errorf("Crc of a text too long: got %x, want 0", got)
	}
}

func TestCrcGoesOn(t *testing.T) {
	sizes := []int{0, 1, 2, 7, 100, 3999, impl.MaxBytes - 1, impl.MaxBytes}
	for _, first := range sizes {
		for _, second := range sizes {
			both := filled(first + second)
			got := impl.CrcMore(impl.Crc(both[:first]), both[first:])
			want := int64(crc32.ChecksumIEEE([]byte(both)))
			if got != want {
				t.Errorf("%d and %d bytes: got %x, want %x", first, second, got, want)
			}
			if len(both) <= impl.MaxBytes && got != impl.Crc(both) {
				t.Errorf("%d and %d bytes: got %x, Crc of both is %x", first, second, got, impl.Crc(both))
			}
		}
	}
}

func TestCrcMoreEdges(t *testing.T) {
	for _, crc := range []int64{0, 1, 1 << 31, math.MaxUint32 - 1, math.MaxUint32} {
		if got := impl.CrcMore(crc, ""); got != crc {
			t.Errorf("CrcMore(%x) of nothing: got %x", crc, got)
		}
		want := int64(crc32.Update(uint32(crc), crc32.IEEETable, []byte("ab")))
		if got := impl.CrcMore(crc, "ab"); got != want {
			t.Errorf("CrcMore(%x): got %x, want %x", crc, got, want)
		}
	}
	for _, crc := range []int64{-1, math.MinInt64, math.MaxUint32 + 1, math.MaxInt64} {
		for _, text := range []string{"", "ab", tooMuch()} {
			if got := impl.CrcMore(crc, text); got != 0 {
				t.Errorf("CrcMore(%x), %d bytes: got %x, want 0", crc, len(text), got)
			}
		}
	}
	if got := impl.CrcMore(5, filled(impl.MaxBytes+1)); got != 0 {
		t.Errorf("CrcMore of a text too long: got %x, want 0", got)
	}
}

func TestSealBytes(t *testing.T) {
	if got, want := impl.Seal("123456789"), "123456789\x26\x39\xf4\xcb"; got != want {
		t.Errorf("Seal: got %q, want %q", got, want)
	}
	if got, want := impl.Seal(""), "\x00\x00\x00\x00"; got != want {
		t.Errorf("Seal of nothing: got %q, want %q", got, want)
	}
	for _, size := range []int{maxSealed + 1, maxSealed + 4, maxSealed + 5, 2 * impl.MaxBytes} {
		if got := impl.Seal(filled(size)); got != "" {
			t.Errorf("Seal of %d bytes: got %d bytes, want none", size, len(got))
		}
	}
}

func TestSealedTextsComeBack(t *testing.T) {
	all := filled(maxSealed)
	for size := 0; size <= maxSealed; size++ {
		sealed := impl.Seal(all[:size])
		if len(sealed) != size+4 {
			t.Errorf("Seal of %d bytes: got %d bytes", size, len(sealed))
		}
		wantText(t, fmt.Sprint(size, " bytes"), impl.Unseal(sealed), impl.TextOut{Text: all[:size]})
	}
}

// turned: the text with other bits at that place.
func turned(text string, place int, bits byte) string {
	out := []byte(text)
	out[place] ^= bits
	return string(out)
}

func TestTurnedBytesAreRefused(t *testing.T) {
	want := impl.TextOut{Code: impl.ErrSum}
	for size := range 20 {
		sealed := impl.Seal(filled(size))
		for place := range len(sealed) {
			for bits := 1; bits < 256; bits++ {
				what := fmt.Sprintf("%d bytes, at %d by %x", size, place, bits)
				wantText(t, what, impl.Unseal(turned(sealed, place, byte(bits))), want)
			}
		}
	}
	for _, size := range []int{100, 1000, maxSealed} {
		sealed := impl.Seal(filled(size))
		for place := range len(sealed) {
			bits := byte(1) << (place % 8)
			wantText(t, fmt.Sprint(size, " bytes, at ", place), impl.Unseal(turned(sealed, place, bits)), want)
		}
	}
}

func TestWrongSeals(t *testing.T) {
	wrong := []struct {
		what string
		text string
		code int64
	}{
		{"nothing", "", impl.ErrShort},
		{"one byte", "\x00", impl.ErrShort},
		{"three bytes", "\x00\x00\x00", impl.ErrShort},
		{"four bytes that are no sum", "abcd", impl.ErrSum},
		{"the sum with its highest byte first", "123456789\xcb\xf4\x39\x26", impl.ErrSum},
		{"one byte less", impl.Seal("abc")[:6], impl.ErrSum},
		{"one byte more", impl.Seal("abc") + "\x00", impl.ErrSum},
		{"MaxBytes bytes that are no seal", strings.Repeat("a", impl.MaxBytes), impl.ErrSum},
		{"a text too long", strings.Repeat("a", impl.MaxBytes+1), impl.ErrSize},
	}
	for _, w := range wrong {
		wantText(t, w.what, impl.Unseal(w.text), impl.TextOut{Code: w.code})
	}
	// A sum that would be right does not help a text that is too long.
	long := filled(maxSealed + 1)
	sum := crc32.ChecksumIEEE([]byte(long))
	long += string([]byte{byte(sum), byte(sum >> 8), byte(sum >> 16), byte(sum >> 24)})
	wantText(t, "a text too long with its sum", impl.Unseal(long), impl.TextOut{Code: impl.ErrSize})
}
