package tests

import (
	"fmt"
	"math/rand"
	"slices"
	"strings"
	"testing"

	"loop.example/g00366/impl"
)

// eachLine: a right line of each kind, all numbers of one digit.
func eachLine() []string {
	return []string{"start 1 2", "end 1 2", "enter 1 2 a", "leave 1 2 a", "fault 1 2 a", "set 1 2 x v", "ask find", "asof 1 2",
		"times", "clean 3", "sync", "crash 3"}
}

// wantLine: is it a line of a desk? Alone, amid others, and by the second telling.
func wantLine(t *testing.T, line string, want bool) {
	t.Helper()
	if aLine.MatchString(line) != want {
		t.Fatalf("the test itself takes %q for another", line)
	}
	for _, ahead := range []int{0, 1, 7, impl.MaxDesk - 1} {
		text := strings.Repeat("sync\n", ahead) + line + "\n"
		if want {
			wantDesk(t, fmt.Sprintf("%q", line), text, desked(text))
			continue
		}
		wantNoDesk(t, text, ahead)
		if ahead < impl.MaxDesk-1 {
			wantNoDesk(t, text+"times\nno line at all\n", ahead)
		}
	}
}

func TestDeskLinesOfEachKind(t *testing.T) {
	for _, line := range eachLine() {
		wantLine(t, line, true)
	}
}

func TestDeskWordsTooFewAndTooMany(t *testing.T) {
	for _, line := range eachLine() {
		words := strings.Split(line, " ")
		if words[0] == "ask" {
			continue
		}
		for many := range len(words) {
			wantLine(t, strings.Join(words[:many], " "), false)
		}
		for i := range len(words) + 1 {
			wantLine(t, strings.Join(slices.Insert(slices.Clone(words), i, "1"), " "), false)
			wantLine(t, strings.Join(slices.Insert(slices.Clone(words), i, "a"), " "), false)
			wantLine(t, strings.Join(slices.Insert(slices.Clone(words), i, ""), " "), false) // two blanks, or one at an end
			wantLine(t, strings.Join(slices.Insert(slices.Clone(words), i, "", ""), " "), false)
		}
		wantLine(t, line+" "+line, false)
	}
}

func TestDeskEmptyWords(t *testing.T) {
	for _, line := range []string{"enter 1 2 ", "leave 1 2 ", "fault 1 2 ", "set 1 2  v", "set 1 2 x ", "set 1 2  ", "start 1 ", "start  2",
		"asof  ", "clean ", "crash ", "times ", "sync ", " times", " ask find", "  ask find", " ask", "", " ", "  "} {
		wantLine(t, line, false)
	}
}

func TestDeskAskIsALineWithWhateverStandsBehindItsBlank(t *testing.T) {
	for _, text := range []string{"", " ", "  ", "find", " find", "find ", "a  b", "\xff", "\x00", "\t", "\r", "ask", "times", "1 2 3 4 5 6 7"} {
		wantLine(t, "ask "+text, true)
	}
	for _, line := range []string{"ask", "asks find", "Ask find", "ask\tfind", "askfind", "ask\xc2\xa0find", "as find", "find", "count"} {
		wantLine(t, line, false)
	}
}

func TestDeskUnknownFirstWords(t *testing.T) {
	for _, line := range eachLine() {
		first, rest, _ := strings.Cut(line, " ")
		for _, word := range []string{strings.ToUpper(first), strings.ToUpper(first[:1]) + first[1:], first + "s", first[:len(first)-1],
			"x" + first, first + "\x00", first + "\r", first + "\t", "\xef\xbb\xbf" + first, "\"" + first + "\"", "0", "-", "#"} {
			wantLine(t, strings.TrimSuffix(word+" "+rest, " "), false)
		}
	}
}

// numberPlaces: each line with a number of its own in the place of each of its numbers.
func numberPlaces(number string) []string {
	var out []string
	for _, line := range eachLine() {
		words := strings.Split(line, " ")
		for i, word := range words {
			if word >= "0" && word <= "9" {
				changed := slices.Clone(words)
				changed[i] = number
				out = append(out, strings.Join(changed, " "))
			}
		}
	}
	return out
}

func TestDeskNumbers(t *testing.T) {
	if many := len(numberPlaces("0")); many != 16 {
		t.Fatalf("%d places of numbers, want 16", many)
	}
	for _, number := range []string{"0", "1", "9", "10", "90", "1000000", "1000001", "100000000", "999999999"} {
		for _, line := range numberPlaces(number) {
			wantLine(t, line, true)
		}
	}
	for _, number := range []string{"", "00", "01", "007", "000000000", "012345678", "0000000001", "1000000000", "9999999999", "4294967297",
		"18446744073709551617", strings.Repeat("1", 300), "-1", "-0", "+1", "+", "-", "a", "1a", "a1", "x1", "0x1", "1e3", "1.0", "1_0", "1,0",
		"1\x00", "\x001", "1\r", "1\t", "/", ":", "\xff", "1\xff", "\xef\xbc\x91", "\xd9\xa1"} {
		for _, line := range numberPlaces(number) {
			wantLine(t, line, false)
		}
	}
}

// A step, a name and a value may be any word: what is wrong with it is told by its line.
func TestDeskAnyWord(t *testing.T) {
	for _, word := range []string{"A", "-1", "01", "\x00", "\xff", "\xc2", "\r", "\t", "a,b", ":", "start", strings.Repeat("w", 300)} {
		for _, line := range []string{"enter 1 2 " + word, "leave 1 2 " + word, "fault 1 2 " + word, "set 1 2 x " + word, "set 1 2 " + word + " v"} {
			wantLine(t, line, true)
		}
	}
}

func TestDeskOfNoLines(t *testing.T) {
	wantDesk(t, "the empty text", "", impl.DeskOut{})
}

func TestDeskLinesThatLackTheirLineFeeds(t *testing.T) {
	for _, line := range eachLine() {
		wantNoDesk(t, line, 0)
		wantNoDesk(t, line+"\r", 0)
		wantNoDesk(t, "sync\n"+line, 1)
		wantNoDesk(t, strings.Repeat("times\n", impl.MaxDesk-1)+line, impl.MaxDesk-1)
		wantNoDesk(t, strings.Repeat("times\n", impl.MaxDesk)+line, impl.MaxDesk)
	}
	wantNoDesk(t, " ", 0)
	wantNoDesk(t, "sync\n ", 1)
	wantNoDesk(t, "sync\n\xff", 1)
	wantNoDesk(t, "ask ", 0)
}

func TestDeskEmptyLines(t *testing.T) {
	wantNoDesk(t, "\n", 0)
	wantNoDesk(t, "\nsync\n", 0)
	wantNoDesk(t, "sync\n\n", 1)
	wantNoDesk(t, "sync\n\nsync\n", 1)
	wantNoDesk(t, "sync\r\nsync\r\n", 0)
	wantNoDesk(t, strings.Repeat("\n", impl.MaxBytes), 0)
}

func TestDeskByHowManyLinesThereAre(t *testing.T) {
	full := strings.Repeat("sync\n", impl.MaxDesk)
	told := strings.Repeat("synced\n", impl.MaxDesk)
	wantDesk(t, "one less than MaxDesk", full[5:], impl.DeskOut{Text: told[7:]})
	wantDesk(t, "MaxDesk", full, impl.DeskOut{Text: told})
	for _, more := range []string{"sync\n", "\n", "sync", "x", " ", "no line\n", "sync\nsync\n", "x\ny\nz", full} {
		wantNoDesk(t, full+more, impl.MaxDesk)
	}
	wantNoDesk(t, strings.Repeat("sync\n", impl.MaxBytes/5), impl.MaxDesk)
	// What is wrong further up is told ahead of what is one too many.
	wantNoDesk(t, "sync\nsynced\n"+full, 1)
	wantNoDesk(t, full[:5*(impl.MaxDesk-1)]+"\n"+full, impl.MaxDesk-1)
}

func TestDeskTellsTheFirstOfSeveralFaults(t *testing.T) {
	wantNoDesk(t, deskText("sync", "start 1", "nothing", ""), 1)
	wantNoDesk(t, deskText("sync", "sync", "", "start 1", "nothing")+"sync", 2)
	wantNoDesk(t, deskText("times", "times", "times", "crash 01")+"times", 3)
	wantNoDesk(t, deskText("clean 1000001", "start 0 0", "ask x", "sync now", "ask"), 3)
	wantNoDesk(t, "x\n"+strings.Repeat("sync\n", 100)+"x", 0)
}

func TestDeskByHowManyBytesThereAre(t *testing.T) {
	asks := func(size int) string { return "ask find" + strings.Repeat(" ", size-9) + "\n" }
	wantDesk(t, "MaxBytes", asks(impl.MaxBytes), impl.DeskOut{Text: "-\n"})
	wantDesk(t, "MaxBytes, wrong", strings.Repeat("x", impl.MaxBytes), impl.DeskOut{Code: impl.ErrSyntax})
	wantNoDesk(t, asks(impl.MaxBytes-1)+"x", 1)
	size := impl.DeskOut{Code: impl.ErrSize}
	wantDesk(t, "one more than MaxBytes", asks(impl.MaxBytes+1), size)
	wantDesk(t, "one more, wrong", asks(impl.MaxBytes-1)+"x\n", size)
	wantDesk(t, "one more, no lines", tooMuch(), size)
	wantDesk(t, "one more, line feeds", strings.Repeat("\n", impl.MaxBytes+1), size)
	wantDesk(t, "one more, too many lines", strings.Repeat("sync\n", impl.MaxBytes/5)+"\n", size)
	wantDesk(t, "much more", filled(50000), size)
}

// scrawled: these lines with some bytes put in, taken away or turned.
func scrawled(source *rand.Rand, text string) string {
	out := []byte(text)
	for range 1 + source.Intn(3) {
		b := somePick(source, byte('\n'), ' ', ' ', '0', '1', 'a', 's', 0, 0xff, 0xc2, byte(source.Intn(256)))
		place := source.Intn(len(out) + 1)
		switch {
		case source.Intn(2) == 0 || place == len(out):
			out = slices.Insert(out, place, b)
		case source.Intn(2) == 0:
			out = slices.Delete(out, place, place+1)
		default:
			out[place] = b
		}
	}
	return string(out)
}

func TestDesksOfAnyTextAsTheDocumentSays(t *testing.T) {
	source := rand.New(rand.NewSource(113))
	codes := map[int64]int{}
	for range 1500 {
		text := scrawled(source, deskText(someDesk(source, source.Intn(9))...))
		want := desked(text)
		wantDesk(t, fmt.Sprintf("%q", text), text, want)
		codes[want.Code]++
	}
	if codes[impl.OK] < 100 || codes[impl.ErrSyntax] < 100 {
		t.Errorf("%v: too few of a kind to tell", codes)
	}
	for size := range 300 {
		text := filled(size * 27)
		wantDesk(t, "any bytes", text, desked(text))
	}
}

func TestDeskWords(t *testing.T) {
	want := []string{"ask", "asof", "clean", "crash", "end", "enter", "fault", "leave", "set", "start", "sync", "times"}
	wantList(t, "the words", impl.DeskWords(), want)
	told := impl.DeskWords()
	clear(told[:cap(told)])
	wantList(t, "the words, the last list wiped", impl.DeskWords(), want)
	one, other := impl.DeskWords(), impl.DeskWords()
	one[0] = "x"
	_ = append(one[:3], "y")
	wantList(t, "a list beside one that was changed", other, want)
}

// Each of the words begins a line, and no line begins with another.
func TestDeskWordsBeginLines(t *testing.T) {
	var first []string
	for _, line := range eachLine() {
		word, _, _ := strings.Cut(line, " ")
		first = append(first, word)
		wantDesk(t, line, deskText(line), desked(deskText(line)))
	}
	wantList(t, "the words", impl.DeskWords(), ordered(first...))
}
