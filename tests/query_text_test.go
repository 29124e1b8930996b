package tests

import (
	"math/rand"
	"strings"
	"testing"

	"loop.example/g00366/impl"
)

// spaced: these words with one to some blanks between, and none to some ahead of the first one and behind the last one.
func spaced(source *rand.Rand, words []string) string {
	out := strings.Repeat(" ", source.Intn(4))
	for i, word := range words {
		if i > 0 {
			out += strings.Repeat(" ", 1+source.Intn(4))
		}
		out += word
	}
	return out + strings.Repeat(" ", source.Intn(4))
}

func TestQueryTextKnown(t *testing.T) {
	for want, q := range map[string]impl.Query{
		"count":               {Count: true, Limit: -1},
		"find":                {Limit: -1},
		"find limit 0":        {},
		"find limit 200":      {Limit: 200},
		"count by kind":       {Count: true, By: "kind", Limit: -1},
		"find order seq":      {Order: "seq", Limit: -1},
		"find order seq desc": {Order: "seq", Down: true, Limit: -1},
		"find where time < 0": {Conds: []impl.Cond{{Field: "time", Op: "<"}}, Limit: -1},
		"count where run >= 1000000 by step": {
			Count: true, Conds: []impl.Cond{{Field: "run", Op: ">=", N: 1000000}}, By: "step", Limit: -1},
		"find where step != where and value = and and kind = end order run desc limit 7": {
			Conds: []impl.Cond{{Field: "step", Op: "!=", Word: "where"}, {Field: "value", Op: "=", Word: "and"}, {Field: "kind", Op: "=", Word: "end"}},
			Order: "run", Down: true, Limit: 7},
		"find where seq = 1 and seq = 1 and seq != 2 and seq <= 3 and seq > 4 and seq < 5 limit 10": {
			Conds: []impl.Cond{{Field: "seq", Op: "=", N: 1}, {Field: "seq", Op: "=", N: 1}, {Field: "seq", Op: "!=", N: 2},
				{Field: "seq", Op: "<=", N: 3}, {Field: "seq", Op: ">", N: 4}, {Field: "seq", Op: "<", N: 5}}, Limit: 10},
	} {
		if got := impl.QueryText(q); got != want {
			t.Errorf("%+v: got %q, want %q", q, got, want)
		}
		wantRead(t, want, q)
	}
}

func TestQueryTextOfWhatIsNotRight(t *testing.T) {
	seven := make([]impl.Cond, 7)
	for i := range seven {
		seven[i] = impl.Cond{Field: "seq", Op: "=", N: 1}
	}
	for _, q := range []impl.Query{
		{Count: true},
		{Count: true, Limit: 5},
		{Down: true},
		{By: "seq"},
		{Order: "kind"},
		{Count: true, Order: "seq", Limit: -1},
		{Limit: -2},
		{Limit: 201},
		{Conds: []impl.Cond{{}}},
		{Conds: []impl.Cond{{Field: "seq", Op: "=", N: -1}}},
		{Conds: []impl.Cond{{Field: "seq", Op: "=", N: 1000001}}},
		{Conds: []impl.Cond{{Field: "seq", Op: "=", Word: "a"}}},
		{Conds: []impl.Cond{{Field: "kind", Op: "=", Word: "a"}}},
		{Conds: []impl.Cond{{Field: "step", Op: "=", Word: longWord(21)}}},
		{Conds: []impl.Cond{{Field: "value", Op: "=", Word: filled(9000)}}},
		{Conds: seven},
	} {
		if got := impl.QueryText(q); got != "" {
			t.Errorf("%+v: got %q, want the empty text", q, got)
		}
	}
}

// Promise 7.
func TestRightQueriesComeBack(t *testing.T) {
	source := rand.New(rand.NewSource(7))
	for _, q := range eachQuery(source) {
		wantRightQuery(t, q, true)
		text := impl.QueryText(q)
		if want := written(q); text != want {
			t.Errorf("%+v: got %q, want %q", q, text, want)
		}
		wantRead(t, text, q)
		words := strings.Split(text, " ")
		for range 4 {
			wantRead(t, spaced(source, words), q)
		}
		wantRead(t, " "+text, q)
		wantRead(t, text+" ", q)
		wantRead(t, strings.ReplaceAll(text, " ", "  "), q)
	}
}

// longest: a right Query that is written with as many bytes as any.
func longest() impl.Query {
	var q impl.Query
	for range impl.MaxConds {
		q.Conds = append(q.Conds, impl.Cond{Field: "value", Op: "!=", Word: longWord(20)})
	}
	q.Order, q.Down, q.Limit = "time", true, impl.MaxEvents
	return q
}

func TestRightQueriesComeBackFromTheLongestText(t *testing.T) {
	q := longest()
	text := impl.QueryText(q)
	lack := strings.Repeat(" ", impl.MaxBytes-len(text))
	wantRead(t, text, q)
	wantRead(t, text+lack, q)
	wantRead(t, lack+text, q)
	wantRead(t, strings.Replace(text, " ", " "+lack, 1), q)
	wantRead(t, "find"+strings.Repeat(" ", impl.MaxBytes-4), impl.Query{Limit: -1})
}

func TestQueryTextIsNewAndLeavesWhatItIsGiven(t *testing.T) {
	source := rand.New(rand.NewSource(71))
	for _, was := range eachQuery(source) {
		given := copiedQuery(was)
		given.By, given.Order = strings.Clone(given.By), strings.Clone(given.Order)
		for i, c := range given.Conds {
			given.Conds[i].Word, given.Conds[i].Field = strings.Clone(c.Word), strings.Clone(c.Field)
		}
		text := impl.QueryText(given)
		wantApart(t, "QueryText", []string{text}, queryTexts(given))
		if !sameQuery(given, was) {
			t.Errorf("QueryText changed what it was given: %+v, which was %+v", given, was)
		}
	}
}
