package tests

import (
	"fmt"
	"math/rand"
	"slices"
	"strings"
	"testing"

	"loop.example/g00366/impl"
)

// wantLineByLine: promise 11: the first lines tell the beginning of what all tell, a line for a line.
func wantLineByLine(t *testing.T, lines []string) {
	t.Helper()
	all := impl.DeskRun(deskText(lines...))
	if all.Code != impl.OK || strings.Count(all.Text, "\n") != len(lines) {
		t.Fatalf("%q: got %+v", lines, all)
	}
	told := strings.SplitAfter(all.Text, "\n")
	for k := range len(lines) + 1 {
		want := impl.DeskOut{Text: strings.Join(told[:k], "")}
		wantDesk(t, fmt.Sprintf("the first %d of %q", k, lines), deskText(lines[:k]...), want)
	}
	for i, line := range told[:len(lines)] {
		if line == "\n" || strings.Contains(line, "  ") || strings.HasPrefix(line, " ") || strings.HasSuffix(line, " \n") {
			t.Errorf("%q tells %q: its words have not one blank between", lines[i], line)
		}
	}
}

// wantRefusedAtEach: the second part of it: with one wrong line anywhere nothing is told.
func wantRefusedAtEach(t *testing.T, lines []string, wrong string) {
	t.Helper()
	for k := range lines {
		spoilt := slices.Clone(lines)
		spoilt[k] = wrong
		wantNoDesk(t, deskText(spoilt...), k)
	}
}

func TestEachLineOfADeskTellsALine(t *testing.T) {
	source := rand.New(rand.NewSource(111))
	for size := range impl.MaxDesk + 1 {
		lines := someDesk(source, size)
		wantLineByLine(t, lines)
		wantRefusedAtEach(t, lines, somePick(source, "", " ", "start 1", "times 1", "sync ", "crash -1", "ask", "nothing"))
	}
	wantLineByLine(t, slices.Repeat([]string{"times"}, impl.MaxDesk))
	wantLineByLine(t, slices.Repeat([]string{"start 0 1"}, impl.MaxDesk))
	wantLineByLine(t, slices.Repeat([]string{"ask "}, impl.MaxDesk))
}

func TestDesksAsTheDocumentSays(t *testing.T) {
	source := rand.New(rand.NewSource(112))
	words := map[string]int{}
	for range 600 {
		text := deskText(someDesk(source, 25+source.Intn(16))...)
		want := desked(text)
		wantDesk(t, fmt.Sprintf("%q", text), text, want)
		for line := range strings.Lines(want.Text) {
			first, _, _ := strings.Cut(strings.TrimSuffix(line, "\n"), " ")
			words[first]++
		}
	}
	for _, word := range []string{"ok", "error", "synced", "events", "-", "0", "1", "2", ":0"} {
		if words[word] < 20 {
			t.Errorf("%q was told %d times, too few to tell", word, words[word])
		}
	}
}

// course: the lines of a run from its start to its end, each step lasting as long as it says: a, b, and c twice.
func course(run int, begun int, a int, b int, c int, again int) []string {
	now := begun
	out := []string{fmt.Sprintf("start %d %d", now, run)}
	step := func(name string, lasts int) {
		out = append(out, fmt.Sprintf("enter %d %d %s", now, run, name))
		now += lasts
		out = append(out, fmt.Sprintf("leave %d %d %s", now, run, name))
	}
	step("a", a)
	step("b", b)
	step("c", c)
	step("c", again)
	return append(out, fmt.Sprintf("end %d %d", now, run))
}

// shuffled: these runs' lines in any order, but those of each in theirs.
func shuffled(source *rand.Rand, runs ...[]string) []string {
	var out []string
	for runs = slices.Clone(runs); len(runs) > 0; {
		which := source.Intn(len(runs))
		out = append(out, runs[which][0])
		if runs[which] = runs[which][1:]; len(runs[which]) == 0 {
			runs = slices.Delete(runs, which, which+1)
		}
	}
	return out
}

// linesOf: the places, from 1, of the lines of that run.
func linesOf(lines []string, run int) []string {
	var out []string
	for i, line := range lines {
		if strings.Split(line, " ")[2] == fmt.Sprint(run) {
			out = append(out, fmt.Sprint(i+1))
		}
	}
	return out
}

// allOk: a turn of each of these lines, all of which are taken.
func allOk(lines []string) []turn {
	var out []turn
	for _, line := range lines {
		out = append(out, turn{line, "ok"})
	}
	return out
}

func TestRunsAreFoundAndCounted(t *testing.T) {
	source := rand.New(rand.NewSource(121))
	for range 40 {
		first, second := course(4, 10, 1, 2, 3, 4), course(9, 0, 7, 0, 100, 5)
		third := course(500, 3, 1, 1, 1, 1)[:1+source.Intn(9)]
		lines := shuffled(source, first, second, third)
		wantTurns(t, append(allOk(lines),
			turn{"ask find where run = 4", strings.Join(linesOf(lines, 4), " ")},
			turn{"ask find where run = 9", strings.Join(linesOf(lines, 9), " ")},
			turn{"ask find where run = 500", strings.Join(linesOf(lines, 500), " ")},
			turn{"ask find where run = 5", "-"},
			turn{"ask count where run = 9", ":10"},
			turn{"ask count by run", fmt.Sprintf("4:10 9:10 500:%d", len(third))},
			turn{"ask count where kind = end", ":2"},
			turn{"ask count where kind = end by run", "4:1 9:1"},
			turn{"ask count where run < 10 and kind = leave by step", "a:2 b:2 c:4"},
			turn{"ask count", fmt.Sprintf(":%d", len(lines))})...)
	}
}

func TestRunsAreTimedStepByStep(t *testing.T) {
	source := rand.New(rand.NewSource(122))
	for range 60 {
		var runs [][]string
		var a, b, c int
		for run := range 1 + source.Intn(3) {
			lasts := []int{source.Intn(9), source.Intn(90), source.Intn(900), source.Intn(9)}
			a, b, c = a+lasts[0], b+lasts[1], c+lasts[2]+lasts[3]
			runs = append(runs, course(run+1, source.Intn(50), lasts[0], lasts[1], lasts[2], lasts[3]))
		}
		lines := shuffled(source, runs...)
		many := len(runs)
		wantTurns(t, append(allOk(lines), turn{"times", fmt.Sprintf("a:%d,%d b:%d,%d c:%d,%d", many, a, many, b, 2*many, c)})...)
	}
}

func TestRunsAreTimedAsTheyGoOn(t *testing.T) {
	turns := []turn{{"times", "-"}}
	for i, line := range course(3, 5, 2, 30, 400, 1) {
		told := []string{"-", "-", "a:1,2", "a:1,2", "a:1,2 b:1,30", "a:1,2 b:1,30", "a:1,2 b:1,30 c:1,400",
			"a:1,2 b:1,30 c:1,400", "a:1,2 b:1,30 c:2,401", "a:1,2 b:1,30 c:2,401"}[i]
		turns = append(turns, turn{line, "ok"}, turn{"times", told})
	}
	wantTurns(t, turns...)
}

// endsAt: when a run of course ends.
func endsAt(lines []string) int {
	return numeral(strings.Split(lines[len(lines)-1], " ")[1])
}

func TestRunsThatHaveEndedGoWhenItIsCleaned(t *testing.T) {
	source := rand.New(rand.NewSource(123))
	for range 60 {
		one, two := course(1, source.Intn(30), 1, 2, 3, source.Intn(20)), course(2, source.Intn(30), 1, 2, 3, source.Intn(20))
		open := course(3, 0, 1, 1, 1, 1)[:1+source.Intn(9)]
		before := somePick(source, 0, source.Intn(60), endsAt(one), endsAt(one)-1, endsAt(two), endsAt(two)+1, impl.MaxTime)
		var stay []string
		gone := 0
		for i, lines := range [][]string{one, two} {
			if endsAt(lines) <= before {
				gone++
			} else {
				stay = append(stay, fmt.Sprintf("%d:10", i+1))
			}
		}
		stay = append(stay, fmt.Sprintf("3:%d", len(open)))
		lines := shuffled(source, one, two, open)
		wantTurns(t, append(allOk(lines),
			turn{fmt.Sprintf("clean %d", before), fmt.Sprintf("ok %d", gone)},
			turn{"ask count by run", strings.Join(stay, " ")},
			turn{"ask find where run = 3", strings.Join(linesOf(lines, 3), " ")},
			turn{fmt.Sprintf("clean %d", before), "ok 0"},
			turn{"ask count by run", strings.Join(stay, " ")})...)
	}
}

func TestACrashTakesBackWhatWasNotSynced(t *testing.T) {
	source := rand.New(rand.NewSource(124))
	for range 60 {
		lines := shuffled(source, course(1, 0, 5, 6, 7, 8), course(2, 3, 1, 20, 1, 1), course(3, 9, 1, 1, 1, 1)[:1+source.Intn(9)])
		synced := source.Intn(len(lines) + 1)
		turns := append(allOk(lines[:synced]), turn{"sync", "synced"})
		turns = append(turns, allOk(lines[synced:])...)
		turns = append(turns, turn{"crash 0", fmt.Sprintf("events %d", synced)})
		for run := 1; run <= 3; run++ {
			turns = append(turns, turn{fmt.Sprintf("ask find where run = %d", run), dashed(linesOf(lines[:synced], run), " ")})
		}
		// What was taken back may happen again.
		again := min(len(lines)-synced, impl.MaxDesk-len(turns)-1)
		turns = append(turns, allOk(lines[synced:synced+again])...)
		wantTurns(t, append(turns, turn{"ask count", fmt.Sprintf(":%d", synced+again)})...)
	}
}

// A crash that leaves so many bytes takes back whole records, the last ones first.
func TestACrashLeavesWholeLines(t *testing.T) {
	lines := append(course(1, 0, 5, 6, 700, 80000), "clean 90000", "start 1 1", "enter 2 1 a")
	for synced := range len(lines) + 1 {
		l := newLedger()
		for _, line := range lines {
			l.tells(line)
		}
		from := l.stops[synced].at
		for keep := range l.last().at - from + 3 {
			desk := slices.Insert(slices.Clone(lines), synced, "sync")
			place := len(l.stops) - 1
			for l.stops[place].at > from+keep {
				place--
			}
			left := l.stops[place].service.Events
			want := deskText(fmt.Sprintf("events %d", len(left)), fmt.Sprintf("events %d", len(left)), fmt.Sprintf(":%d", len(left)))
			got := impl.DeskRun(deskText(append(desk, fmt.Sprintf("crash %d", keep), "crash 0", "ask count")...))
			if got.Code != impl.OK || !strings.HasSuffix(got.Text, "\nok\n"+want) && !strings.HasSuffix(got.Text, "\nsynced\n"+want) {
				t.Errorf("%d lines synced, %d bytes kept: got %q, want %q at its end", synced, keep, got.Text, want)
			}
		}
	}
}
