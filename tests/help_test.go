package tests

import (
	"math/rand"
	"strings"
	"testing"
	"unsafe"

	"loop.example/g00366/impl"
)

// filled makes a text of that many bytes of all kinds, the same in every run.
func filled(many int) string {
	source := rand.New(rand.NewSource(int64(many)))
	out := make([]byte, many)
	for i := range out {
		out[i] = byte(source.Intn(256))
	}
	return string(out)
}

// tooMuch is the shortest text that every call refuses; it begins as a right one would.
func tooMuch() string {
	return "\x02" + strings.Repeat("a", impl.MaxBytes)
}

// sharesMemory tells whether any byte of part lies within the memory of whole.
func sharesMemory(part string, whole string) bool {
	if part == "" || whole == "" {
		return false
	}
	p := uintptr(unsafe.Pointer(unsafe.StringData(part)))
	w := uintptr(unsafe.Pointer(unsafe.StringData(whole)))
	return p < w+uintptr(len(whole)) && w < p+uintptr(len(part))
}

func wantNum(t *testing.T, what string, got impl.NumOut, want impl.NumOut) {
	t.Helper()
	if got != want {
		t.Errorf("%s: got %+v, want %+v", what, got, want)
	}
}

func wantText(t *testing.T, what string, got impl.TextOut, want impl.TextOut) {
	t.Helper()
	if got != want {
		t.Errorf("%s: got %d bytes, At %d, Code %d, want %d bytes, At %d, Code %d",
			what, len(got.Text), got.At, got.Code, len(want.Text), want.At, want.Code)
	}
}
