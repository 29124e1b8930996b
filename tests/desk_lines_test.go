package tests

import (
	"fmt"
	"strings"
	"testing"

	"loop.example/g00366/impl"
)

func TestDeskStart(t *testing.T) {
	wantTurns(t,
		turn{"start 5 1", "ok"},
		turn{"start 5 1", "error 10"},
		turn{"start 4 1", "error 10"}, // its status is asked ahead of its time
		turn{"start 0 2", "ok"},
		turn{"start 1000000 3", "ok"},
		turn{"start 1000001 4", "error 1"},
		turn{"start 999999999 4", "error 1"},
		turn{"start 1000001 1", "error 1"},
		turn{"start 0 0", "error 1"},
		turn{"start 0 1000000", "ok"},
		turn{"start 0 1000001", "error 1"},
		turn{"start 0 999999999", "error 1"},
		turn{"ask find where kind = start", "1 2 3 4"},
		turn{"ask count by time", "0:2 5:1 1000000:1"},
		turn{"ask count by run", "1:1 2:1 3:1 1000000:1"})
}

func TestDeskEnd(t *testing.T) {
	turns := []turn{{"end 0 7", "error 10"}}
	for _, line := range course(7, 10, 1, 1, 1, 1)[:9] {
		turns = append(turns, turn{line, "ok"}, turn{"end 14 7", "error 10"})
	}
	turns[len(turns)-1].line = "end 13 7"
	turns[len(turns)-1].told = "error 8"
	wantTurns(t, append(turns,
		turn{"end 1000001 7", "error 1"},
		turn{"end 14 0", "error 1"},
		turn{"end 14 8", "error 10"},
		turn{"end 14 7", "ok"},
		turn{"end 14 7", "error 10"},
		turn{"end 13 7", "error 10"},
		turn{"start 15 7", "error 10"},
		turn{"enter 15 7 a", "error 10"},
		turn{"set 15 7 x y", "error 10"},
		turn{"asof 7 14", "2 - - 0"},
		turn{"asof 7 13", "1 - c 0"},
		turn{"ask find where kind = end", "10"})...)
}

func TestDeskEnter(t *testing.T) {
	wantTurns(t,
		turn{"enter 5 1 a", "error 10"},
		turn{"start 5 1", "ok"},
		turn{"enter 4 1 a", "error 8"},
		turn{"enter 4 1 b", "error 8"},
		turn{"enter 5 1 b", "error 6"},
		turn{"enter 5 1 d", "error 6"},
		turn{"enter 5 1 " + longWord(20), "error 6"},
		turn{"enter 5 1 " + longWord(21), "error 1"},
		turn{"enter 5 1 A", "error 1"},
		turn{"enter 5 1 1", "error 1"},
		turn{"enter 5 1 _", "error 1"},
		turn{"enter 5 1 a,b", "error 1"},
		turn{"enter 5 1 \xc3\xa9", "error 1"},
		turn{"enter 5 1 \xff", "error 1"},
		turn{"enter 1000001 1 a", "error 1"},
		turn{"enter 5 0 a", "error 1"},
		turn{"enter 5 2 a", "error 10"},
		turn{"enter 5 1 a", "ok"},
		turn{"enter 5 1 a", "error 6"},
		turn{"ask find", "1 2"},
		turn{"asof 1 5", "1 - a 0"})
}

func TestDeskLeave(t *testing.T) {
	wantTurns(t,
		turn{"leave 0 1 a", "error 10"},
		turn{"start 0 1", "ok"},
		turn{"leave 0 1 a", "error 6"},
		turn{"enter 3 1 a", "ok"},
		turn{"leave 2 1 a", "error 8"},
		turn{"leave 3 1 b", "error 6"},
		turn{"leave 3 1 ab", "error 6"},
		turn{"leave 3 1 a-b", "error 1"},
		turn{"leave 3 1 " + longWord(21), "error 1"},
		turn{"leave 3 1000001 a", "error 1"},
		turn{"leave 3 1 a", "ok"},
		turn{"leave 3 1 a", "error 6"},
		turn{"asof 1 3", "1 b,c - 0"},
		turn{"ask find where kind = leave", "3"})
}

func TestDeskFaultLines(t *testing.T) {
	wantTurns(t,
		turn{"fault 0 1 a", "error 10"},
		turn{"start 0 1", "ok"},
		turn{"fault 0 1 a", "error 6"},
		turn{"enter 3 1 a", "ok"},
		turn{"fault 2 1 a", "error 8"},
		turn{"fault 3 1 b", "error 6"},
		turn{"fault 3 1 d", "error 6"},
		turn{"fault 3 1 Z", "error 1"},
		turn{"fault 1000001 1 a", "error 1"},
		turn{"fault 3 1 a", "ok"},
		turn{"asof 1 3", "1 - a 1"},
		turn{"fault 4 1 a", "ok"},
		turn{"asof 1 3", "1 - a 1"},
		turn{"asof 1 4", "1 - a 2"},
		turn{"ask find where kind = fault", "3 4"})
}

func TestDeskSet(t *testing.T) {
	wantTurns(t,
		turn{"set 0 1 x v", "error 10"},
		turn{"start 6 1", "ok"},
		turn{"set 5 1 x v", "error 8"},
		turn{"set 6 1 x v", "ok"},
		turn{"set 6 1 x v", "ok"},
		turn{"set 6 1 " + longWord(20) + " " + strings.Repeat("v", 40), "ok"},
		turn{"set 6 1 " + longWord(21) + " v", "error 1"},
		turn{"set 6 1 x " + strings.Repeat("v", 41), "error 1"},
		turn{"set 6 1 X v", "error 1"},
		turn{"set 6 1 9 v", "error 1"},
		turn{"set 6 1 x=v v", "error 1"},
		turn{"set 1000001 1 x v", "error 1"},
		turn{"set 6 0 x v", "error 1"},
		turn{"set 6 1 a A=1,(-)", "ok"},
		turn{"set 6 1 a 007", "ok"},
		turn{"ask find where kind = set", "2 3 4 5 6"},
		turn{"ask count where kind = set by step", "a:2 " + longWord(20) + ":1 x:2"},
		turn{"ask count where kind = set by value", "007:1 A=1,(-):1 v:2 " + strings.Repeat("v", 40) + ":1"},
		turn{"ask count where value = v", ":2"})
}

func TestDeskSetAtManyNames(t *testing.T) {
	turns := []turn{{"start 0 1", "ok"}, {"start 0 2", "ok"}}
	for i := range 20 {
		turns = append(turns, turn{fmt.Sprintf("set %d 1 n%d v", i, i), "ok"})
	}
	wantTurns(t, append(turns,
		turn{"set 20 1 more v", "error 9"},
		turn{"set 20 1 n7 w", "ok"},
		turn{"set 20 2 more v", "ok"},
		turn{"ask count by run", "1:22 2:2"},
		turn{"ask find where value = w", "23"})...)
}

// Words are told and kept byte by byte, whatever they would be as runes.
func TestDeskBytesAbove127(t *testing.T) {
	wantTurns(t,
		turn{"start 0 1", "ok"},
		turn{"set 0 1 x \xff\xfe", "ok"},
		turn{"set 0 1 x \xe2\x82", "ok"}, // cut off ahead of the line feed
		turn{"set 0 1 x \xc2\xa0\xe2\x80\xa8\xc2\x85", "ok"},
		turn{"set 0 1 x \xef\xbf\xbd", "ok"},
		turn{"set 0 1 x " + strings.Repeat("\xc3\xa9", 20), "ok"},
		turn{"set 0 1 x " + strings.Repeat("\xc3\xa9", 21), "error 1"},
		turn{"set 0 1 x\xc3 v", "error 1"}, // cut off ahead of a blank
		turn{"set 0 1 \xf0\x90 \x80", "error 1"},
		turn{"set 0 1 x \t\r\x00", "ok"},
		turn{"ask count where kind = set by value", "\t\r\x00:1 \xc2\xa0\xe2\x80\xa8\xc2\x85:1 " + strings.Repeat("\xc3\xa9", 20) +
			":1 \xe2\x82:1 \xef\xbf\xbd:1 \xff\xfe:1"},
		turn{"ask find where value = \xff\xfe", "error 3 4"},
		turn{"ask \xc2", "error 3 0"},
		turn{"ask find\xc2\xa0where", "error 3 0"},
		turn{"ask find \xe2\x80\xa8", "error 3 1"},
		turn{"ask find\t", "error 3 0"})
}

// askedTurns: a desk with two runs, whose events are told below.
func askedTurns() []turn {
	return allOk([]string{
		"start 0 9", "start 3 10", "enter 3 9 a", "enter 4 10 a", "fault 5 10 a", "leave 10 9 a", "set 11 9 x v",
		"leave 12 10 a", "enter 12 9 c", "set 13 9 y a", "enter 14 9 b"})
}

func TestDeskAskFind(t *testing.T) {
	wantTurns(t, append(askedTurns(),
		turn{"ask find", "1 2 3 4 5 6 7 8 9 10 11"},
		turn{"ask find where run = 10", "2 4 5 8"},
		turn{"ask find where run = 10 and kind != fault", "2 4 8"},
		turn{"ask find where time >= 12", "8 9 10 11"},
		turn{"ask find where step = a", "3 4 5 6 8"},
		turn{"ask find where value = a", "10"},
		turn{"ask find where step = d", "-"},
		turn{"ask find where seq > 11", "-"},
		turn{"ask find limit 0", "-"},
		turn{"ask find limit 1", "1"},
		turn{"ask find order time desc limit 4", "11 10 8 9"},
		turn{"ask find order run desc", "2 4 5 8 1 3 6 7 9 10 11"},
		turn{"ask find where kind = enter order seq desc", "11 9 4 3"},
		turn{"ask find where seq = 0000007", "7"})...)
	wantTurns(t, turn{"ask find", "-"}, turn{"ask find where kind = start order time limit 200", "-"})
}

func TestDeskAskCount(t *testing.T) {
	wantTurns(t, append(askedTurns(),
		turn{"ask count", ":11"},
		turn{"ask count where kind = set", ":2"},
		turn{"ask count where kind = end", ":0"},
		turn{"ask count by seq", "1:1 2:1 3:1 4:1 5:1 6:1 7:1 8:1 9:1 10:1 11:1"},
		turn{"ask count by time", "0:1 3:2 4:1 5:1 10:1 11:1 12:2 13:1 14:1"},
		turn{"ask count by run", "9:7 10:4"},
		turn{"ask count by kind", "enter:4 fault:1 leave:2 set:2 start:2"},
		turn{"ask count by step", ":2 a:5 b:1 c:1 x:1 y:1"},
		turn{"ask count by value", ":9 a:1 v:1"},
		turn{"ask count where kind = set by value", "a:1 v:1"},
		turn{"ask count where kind = end by run", "-"},
		turn{"ask count where seq > 11 by kind", "-"})...)
	wantTurns(t, turn{"ask count", ":0"}, turn{"ask count by run", "-"}, turn{"ask count by value", "-"})
}

// Of an Answer without a Seq the `:` is told also where its Label is empty.
func TestDeskAskWithoutALabel(t *testing.T) {
	wantTurns(t,
		turn{"ask count", ":0"},
		turn{"start 0 1", "ok"},
		turn{"ask count", ":1"},
		turn{"ask count by step", ":1"},
		turn{"ask count by value", ":1"},
		turn{"ask count by kind", "start:1"},
		turn{"enter 1 1 a", "ok"},
		turn{"ask count by step", ":1 a:1"},
		turn{"ask count by value", ":2"},
		turn{"ask count where kind = enter by step", "a:1"},
		turn{"ask count where kind != enter by step", ":1"},
		turn{"set 2 1 x :", "ok"},
		turn{"ask count by value", ":2 ::1"},
		turn{"ask count where kind = set by value", "::1"},
		turn{"ask count where step = b by step", "-"},
		turn{"ask count where step = b", ":0"},
		turn{"ask find where step = x", "3"})
}

func TestDeskAskBlanks(t *testing.T) {
	wantTurns(t, append(askedTurns(),
		turn{"ask  count", ":11"},
		turn{"ask count ", ":11"},
		turn{"ask    count   by   run  ", "9:7 10:4"},
		turn{"ask  find  where run  = 10 ", "2 4 5 8"},
		turn{"ask ", "error 3 0"},
		turn{"ask  ", "error 3 0"},
		turn{"ask       ", "error 3 0"})...)
}

func TestDeskAskWhatIsNoQuery(t *testing.T) {
	wantTurns(t,
		turn{"ask find where", "error 3 2"},
		turn{"ask  find   where  ", "error 3 2"},
		turn{"ask ask find", "error 3 0"},
		turn{"ask FIND", "error 3 0"},
		turn{"ask find count", "error 3 1"},
		turn{"ask find where kind < end", "error 3 3"},
		turn{"ask find where kind = ends", "error 3 4"},
		turn{"ask find where seq = 00000001", "error 3 4"},
		turn{"ask find where seq = 1000001", "error 3 4"},
		turn{"ask find where seq = 1 and", "error 3 6"},
		turn{"ask find limit 201", "error 3 2"},
		turn{"ask find by run", "error 3 1"},
		turn{"ask count by", "error 3 2"},
		turn{"ask count limit 1", "error 3 1"},
		turn{"ask count by run by run", "error 3 3"},
		turn{"ask " + strings.Repeat("x ", 1000), "error 3 0"},
		turn{"ask find " + condsOf(6) + " and seq = 1", "error 3 25"},
		turn{"ask find order seq asc", "error 3 3"})
}

func TestDeskAsOf(t *testing.T) {
	turns := allOk(course(6, 10, 2, 3, 4, 5))
	wantTurns(t, append(turns,
		turn{"asof 6 9", "0 - - 0"},
		turn{"asof 6 0", "0 - - 0"},
		turn{"asof 6 10", "1 - a 0"},
		turn{"asof 6 11", "1 - a 0"},
		turn{"asof 6 12", "1 c b 0"},
		turn{"asof 6 15", "1 c c 0"},
		turn{"asof 6 19", "1 - c 0"},
		turn{"asof 6 23", "1 - c 0"},
		turn{"asof 6 24", "2 - - 0"},
		turn{"asof 6 1000000", "2 - - 0"},
		turn{"asof 6 1000001", "error 1"},
		turn{"asof 6 999999999", "error 1"},
		turn{"asof 5 10", "error 6"},
		turn{"asof 0 10", "error 6"},
		turn{"asof 1000001 10", "error 6"},
		turn{"asof 999999999 10", "error 6"},
		turn{"asof 5 1000001", "error 1"}, // no time is named ahead of no run
		turn{"asof 0 1000001", "error 1"},
		turn{"asof 10 6", "error 6"})...)
	wantTurns(t, turn{"asof 1 0", "error 6"}, turn{"asof 1 1000001", "error 1"}, turn{"asof 0 0", "error 6"})
}

// Wait and Busy with none, one, several and the same more than once.
func TestDeskAsOfMarks(t *testing.T) {
	steps := []struct{ line, told string }{
		{"start %d 1", "1 a - 0"},
		{"enter %d 1 a", "1 - a 0"},
		{"fault %d 1 a", "1 - a 1"},
		{"leave %d 1 a", "1 b,c - 1"},
		{"enter %d 1 c", "1 b c 1"},
		{"enter %d 1 b", "1 - b,c 1"},
		{"fault %d 1 c", "1 - b,c 2"},
		{"set %d 1 x v", "1 - b,c 2"},
		{"leave %d 1 b", "1 c c 2"},
		{"enter %d 1 c", "1 - c,c 2"},
		{"leave %d 1 c", "1 - c 2"},
		{"leave %d 1 c", "1 - - 2"},
		{"end %d 1", "2 - - 2"},
	}
	var turns, behind []turn
	for i, x := range steps {
		turns = append(turns, turn{fmt.Sprintf(x.line, i*3), "ok"}, turn{fmt.Sprintf("asof 1 %d", i*3), x.told})
		behind = append(behind, turn{fmt.Sprintf("asof 1 %d", i*3+2), x.told})
	}
	wantTurns(t, append(turns, behind...)...)
	wantTurns(t, append(allOk([]string{"start 0 1", "enter 0 1 a", "leave 0 1 a", "enter 0 1 b", "leave 0 1 b"}),
		turn{"asof 1 0", "1 c,c - 0"})...)
}

func TestDeskTimes(t *testing.T) {
	wantTurns(t,
		turn{"times", "-"},
		turn{"start 0 1", "ok"},
		turn{"times", "-"},
		turn{"enter 2 1 a", "ok"},
		turn{"times", "-"},
		turn{"leave 9 1 a", "ok"},
		turn{"times", "a:1,7"},
		turn{"enter 10 1 c", "ok"},
		turn{"leave 10 1 c", "ok"},
		turn{"times", "a:1,7 c:1,0"},
		turn{"start 0 2", "ok"},
		turn{"enter 0 2 a", "ok"},
		turn{"leave 1000000 2 a", "ok"},
		turn{"times", "a:2,1000007 c:1,0"},
		turn{"enter 20 1 b", "ok"},
		turn{"leave 25 1 b", "ok"},
		turn{"times", "a:2,1000007 b:1,5 c:1,0"})
}

func TestDeskClean(t *testing.T) {
	turns := []turn{{"clean 0", "ok 0"}, {"clean 1000000", "ok 0"}, {"clean 1000001", "error 1"}, {"clean 999999999", "error 1"}}
	turns = append(turns, allOk(course(1, 0, 1, 1, 1, 1))...)
	turns = append(turns, allOk(course(2, 5, 0, 0, 0, 0))...)
	wantTurns(t, append(turns,
		turn{"start 0 3", "ok"},
		turn{"clean 3", "ok 0"},
		turn{"ask count by run", "1:10 2:10 3:1"},
		turn{"clean 4", "ok 1"},
		turn{"ask count by run", "2:10 3:1"},
		turn{"asof 1 4", "error 6"},
		turn{"clean 1000001", "error 1"},
		turn{"start 0 1", "ok"}, // a run that went may begin anew; Seqs go on
		turn{"ask find where run = 1", "22"},
		turn{"clean 1000000", "ok 1"},
		turn{"ask find", "21 22"},
		turn{"times", "-"},
		turn{"clean 1000000", "ok 0"})...)
	both := append(allOk(course(1, 0, 1, 1, 1, 1)), allOk(course(2, 5, 0, 0, 0, 0))...)
	wantTurns(t, append(both, turn{"clean 5", "ok 2"}, turn{"ask find", "-"}, turn{"ask count", ":0"})...)
}

func TestDeskSync(t *testing.T) {
	wantTurns(t,
		turn{"sync", "synced"},
		turn{"sync", "synced"},
		turn{"start 0 1", "ok"},
		turn{"sync", "synced"},
		turn{"ask find", "1"},
		turn{"enter 0 1 b", "error 6"},
		turn{"sync", "synced"},
		turn{"ask find", "1"})
}

func TestDeskCrash(t *testing.T) {
	wantTurns(t, turn{"crash 0", "events 0"}, turn{"crash 999999999", "events 0"}, turn{"sync", "synced"}, turn{"crash 1", "events 0"})
	// The record of a start with small numbers has 13 bytes.
	for _, c := range []struct{ keep, left int }{
		{0, 0}, {1, 0}, {12, 0}, {13, 1}, {14, 1}, {25, 1}, {26, 2}, {38, 2}, {39, 3}, {40, 3}, {999999999, 3},
	} {
		want := dashed([]string{"1", "2", "3"}[:c.left], " ")
		wantTurns(t,
			turn{"start 0 1", "ok"},
			turn{"start 0 2", "ok"},
			turn{"start 0 3", "ok"},
			turn{fmt.Sprintf("crash %d", c.keep), fmt.Sprintf("events %d", c.left)},
			turn{"ask find", want},
			turn{"crash 0", fmt.Sprintf("events %d", c.left)}, // what is left is synced
			turn{"ask find", want},
			turn{"start 0 4", "ok"},
			turn{"ask find where run = 4", fmt.Sprint(c.left + 1)})
	}
}

func TestDeskCrashOfWhatIsSynced(t *testing.T) {
	wantTurns(t,
		turn{"start 0 1", "ok"},
		turn{"start 0 2", "ok"},
		turn{"sync", "synced"},
		turn{"crash 0", "events 2"},
		turn{"start 0 3", "ok"},
		turn{"crash 12", "events 2"},
		turn{"start 0 3", "ok"},
		turn{"crash 13", "events 3"},
		turn{"crash 0", "events 3"},
		turn{"start 0 4", "ok"},
		turn{"start 0 5", "ok"},
		turn{"crash 25", "events 4"},
		turn{"ask count by run", "1:1 2:1 3:1 4:1"})
}

// A cleaning is taken back as well, and what was refused left nothing to be taken back.
func TestDeskCrashTakesBackACleaning(t *testing.T) {
	wantTurns(t, append(allOk(course(1, 0, 1, 1, 1, 1)),
		turn{"sync", "synced"},
		turn{"clean 4", "ok 1"},
		turn{"ask count", ":0"},
		turn{"crash 0", "events 10"},
		turn{"asof 1 4", "2 - - 0"},
		turn{"times", "a:1,1 b:1,1 c:2,2"},
		turn{"enter 9 1 a", "error 10"},
		turn{"clean 1000001", "error 1"},
		turn{"crash 0", "events 10"},
		turn{"clean 4", "ok 1"},
		turn{"crash 6", "events 10"}, // the record of a cleaning has 7 bytes
		turn{"clean 4", "ok 1"},
		turn{"crash 7", "events 0"},
		turn{"ask find", "-"},
		turn{"start 0 2", "ok"},
		turn{"ask find", "11"})...)
}

func TestDesksAreNewEachTime(t *testing.T) {
	text := deskText("ask count", "start 0 1", "sync", "ask find")
	for range 3 {
		wantDesk(t, "the same desk again", text, impl.DeskOut{Text: ":0\nok\nsynced\n1\n"})
		wantDesk(t, "another desk", deskText("ask find", "asof 1 0"), impl.DeskOut{Text: "-\nerror 6\n"})
	}
}

func TestWhatADeskTellsIsNewMemory(t *testing.T) {
	text := deskText("start 0 1", "set 0 1 name "+strings.Repeat("v", 40), "ask count by value", "ask count by step")
	if got := impl.DeskRun(text); got.Text == "" || sharesMemory(got.Text, text) {
		t.Errorf("what is told, %q, lies in memory of the text", got.Text)
	}
}
