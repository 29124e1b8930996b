package tests

import (
	"math/rand"
	"regexp"
	"slices"
	"sort"
	"strconv"
	"strings"
	"testing"

	"loop.example/g00366/impl"
)

func numberFields() []string {
	return []string{"seq", "time", "run"}
}

func wordFields() []string {
	return []string{"kind", "step", "value"}
}

func allFields() []string {
	return append(numberFields(), wordFields()...)
}

func numberOps() []string {
	return []string{"=", "!=", "<", "<=", ">", ">="}
}

func kindWords() []string {
	return []string{"start", "enter", "leave", "set", "fault", "end"}
}

// noFields: texts near to fields that are none.
func noFields() []string {
	return []string{"", " ", "Seq", "seq ", " seq", "seqs", "se", "number", "times", "runs", "kinds", "steps", "values",
		"Kind", "label", "n", "by", "order", "where", "=", "1", "seq\x00", "seq time", filled(9000)}
}

// noOps: texts near to Ops that are none.
func noOps() []string {
	return []string{"", " ", "==", "!", "!==", "=!", "=<", "=>", "<>", "><", "<<", ">>", " =", "= ", "<=>", "~", "is", "eq", "\x00", filled(9000)}
}

// longWord: a name of that many bytes.
func longWord(size int) string {
	return "w" + strings.Repeat("_", size-1)
}

// someNames: words that may be asked for of a step and of a value, some of which also stand elsewhere in a query.
func someNames() []string {
	return []string{"a", "z", "b_2", "x9", longWord(19), longWord(20), "end", "start", "find", "count", "where", "and", "by",
		"order", "desc", "limit", "seq", "kind", "n1", "a_"}
}

// noNames: words that may be asked for of no field.
func noNames() []string {
	return []string{"", "A", "_a", "9", "1a", "a-", "a b", " a", "a ", "a=", "a.", "\x00", "a\x00", "a\n", "\u00e9", "=", "!=", longWord(21), longWord(40), filled(9000)}
}

var (
	aName = regexp.MustCompile(`\A[a-z][a-z0-9_]{0,19}\z`)
	// aQuery: all that is read as a right query, with one blank between words.
	aQuery = func() *regexp.Regexp {
		number := `(?:[0-9]{1,6}|0[0-9]{6}|1000000)`
		cond := `(?:(?:seq|time|run) (?:=|!=|<|<=|>|>=) ` + number +
			`|kind !?= (?:start|enter|leave|set|fault|end)` +
			`|(?:step|value) !?= [a-z][a-z0-9_]{0,19})`
		conds := `(?: where ` + cond + `(?: and ` + cond + `){0,5})?`
		limit := `(?:0{0,6}[0-9]|0{0,5}[0-9]{2}|0{0,4}1[0-9]{2}|0{0,4}200)`
		return regexp.MustCompile(`\A(?:count` + conds + `(?: by (?:seq|time|run|kind|step|value))?` +
			`|find` + conds + `(?: order (?:seq|time|run)(?: desc)?)?(?: limit ` + limit + `)?)\z`)
	}()
)

// condRight: what a right Cond is, told over again.
func condRight(c impl.Cond) bool {
	equal := c.Op == "=" || c.Op == "!="
	switch c.Field {
	case "seq", "time", "run":
		return slices.Contains(numberOps(), c.Op) && c.Word == "" && 0 <= c.N && c.N <= 1000000
	case "kind":
		return equal && slices.Contains(kindWords(), c.Word) && c.N == 0
	case "step", "value":
		return equal && aName.MatchString(c.Word) && c.N == 0
	}
	return false
}

// queryRight: what a right Query is, told over again.
func queryRight(q impl.Query) bool {
	if len(q.Conds) > 6 {
		return false
	}
	for _, c := range q.Conds {
		if !condRight(c) {
			return false
		}
	}
	if q.By != "" && (!slices.Contains(allFields(), q.By) || !q.Count) {
		return false
	}
	if q.Order != "" && (!slices.Contains(numberFields(), q.Order) || q.Count) {
		return false
	}
	if q.Down && q.Order == "" {
		return false
	}
	return q.Limit == -1 || q.Limit >= 0 && q.Limit <= 200 && !q.Count
}

// written: how a right Query is written, told over again.
func written(q impl.Query) string {
	out := "find"
	if q.Count {
		out = "count"
	}
	for i, c := range q.Conds {
		out += []string{" where ", " and ", " and ", " and ", " and ", " and "}[i] + c.Field + " " + c.Op + " "
		if slices.Contains(numberFields(), c.Field) {
			out += strconv.Itoa(int(c.N))
		} else {
			out += c.Word
		}
	}
	if q.By != "" {
		out += " by " + q.By
	}
	if q.Order != "" {
		out += " order " + q.Order
	}
	if q.Down {
		out += " desc"
	}
	if q.Limit >= 0 {
		out += " limit " + strconv.Itoa(int(q.Limit))
	}
	return out
}

// goesOn: does a right query begin with these words? What may be lacking is one of a few ends.
func goesOn(words []string) bool {
	for _, end := range []string{"", "find", "seq", "seq = 1", "= 1", "= a", "= end", "1", "a", "end"} {
		whole := strings.Join(words, " ")
		if len(words) > 0 && end != "" {
			whole += " "
		}
		if aQuery.MatchString(whole + end) {
			return true
		}
	}
	return false
}

// faultAt: which word is told of these, told over again: -1 of a right query.
func faultAt(words []string) int {
	if aQuery.MatchString(strings.Join(words, " ")) {
		return -1
	}
	// Where some words do not go on, more of them do not either, so that the first such word may be searched for.
	return sort.Search(len(words), func(i int) bool { return !goesOn(words[:i+1]) })
}

// eachCond: a right Cond of each field and each Op, with numbers and words at their edges.
func eachCond() []impl.Cond {
	var out []impl.Cond
	for _, field := range numberFields() {
		for _, op := range numberOps() {
			for _, n := range []int64{0, 1, 9, 10, 999999, impl.MaxTime} {
				out = append(out, impl.Cond{Field: field, Op: op, N: n})
			}
		}
	}
	for _, op := range []string{"=", "!="} {
		for _, word := range kindWords() {
			out = append(out, impl.Cond{Field: "kind", Op: op, Word: word})
		}
		for _, word := range someNames() {
			out = append(out, impl.Cond{Field: "step", Op: op, Word: word}, impl.Cond{Field: "value", Op: op, Word: word})
		}
	}
	return out
}

// eachEnd: a right Query without Conds, of each shape.
func eachEnd() []impl.Query {
	out := []impl.Query{{Count: true, Limit: -1}}
	for _, field := range allFields() {
		out = append(out, impl.Query{Count: true, By: field, Limit: -1})
	}
	for _, limit := range []int64{-1, 0, 1, 9, 10, 99, 100, impl.MaxEvents - 1, impl.MaxEvents} {
		out = append(out, impl.Query{Limit: limit})
		for _, field := range numberFields() {
			out = append(out, impl.Query{Order: field, Limit: limit}, impl.Query{Order: field, Down: true, Limit: limit})
		}
	}
	return out
}

// eachQuery: right Queries of each shape, with none to MaxConds Conds.
func eachQuery(source *rand.Rand) []impl.Query {
	conds := eachCond()
	var out []impl.Query
	for _, c := range conds {
		for _, q := range []impl.Query{{Limit: -1}, {Count: true, Limit: -1}} {
			q.Conds = []impl.Cond{c}
			out = append(out, q)
		}
	}
	for _, q := range eachEnd() {
		for size := range impl.MaxConds + 1 {
			q.Conds = nil
			for range size {
				q.Conds = append(q.Conds, somePick(source, conds...))
			}
			out = append(out, q)
		}
	}
	return out
}

// copiedQuery: that Query with a list of its own.
func copiedQuery(q impl.Query) impl.Query {
	q.Conds = slices.Clone(q.Conds)
	return q
}

// sameQuery: are they alike, an empty list being the same as none?
func sameQuery(a impl.Query, b impl.Query) bool {
	return a.Count == b.Count && slices.Equal(a.Conds, b.Conds) && a.By == b.By && a.Order == b.Order && a.Down == b.Down && a.Limit == b.Limit
}

// queryTexts: all texts of a Query.
func queryTexts(q impl.Query) []string {
	out := []string{q.By, q.Order}
	for _, c := range q.Conds {
		out = append(out, c.Field, c.Op, c.Word)
	}
	return out
}

func wantRightQuery(t *testing.T, q impl.Query, want bool) {
	t.Helper()
	if got := impl.QueryRight(q); got != want {
		t.Errorf("is %+v right? got %t, want %t", q, got, want)
	}
}

// wantRead: the text is that Query.
func wantRead(t *testing.T, text string, want impl.Query) {
	t.Helper()
	got := impl.QueryRead(text)
	if got.Code != impl.OK || got.At != 0 || !sameQuery(got.Query, want) {
		t.Errorf("%q: got %+v, want %+v", text, got, want)
	}
}

// wantFault: the text is no query, by the word of that number, and nothing else is told.
func wantFault(t *testing.T, text string, at int64) {
	t.Helper()
	got := impl.QueryRead(text)
	if got.Code != impl.ErrSyntax || got.At != at || !sameQuery(got.Query, impl.Query{}) {
		t.Errorf("%q: got %+v, want Code %d, At %d, and no Query", text, got, impl.ErrSyntax, at)
	}
}
