package tests

import (
	"math/rand"
	"slices"
	"strings"
	"testing"

	"loop.example/g00366/impl"
)

// aCond: a right Cond in words.
const aCond = "seq = 1"

// condsOf: that many of it, as they are written.
func condsOf(size int) string {
	return "where " + strings.Join(slices.Repeat([]string{aCond}, size), " and ")
}

func TestQueryReadNoWords(t *testing.T) {
	wantFault(t, "", 0)
	for _, size := range []int{1, 2, 3, 100, impl.MaxBytes} {
		wantFault(t, strings.Repeat(" ", size), 0)
	}
}

func TestQueryReadTooLong(t *testing.T) {
	blanks := strings.Repeat(" ", impl.MaxBytes)
	for _, text := range []string{"find" + blanks, blanks + "count", blanks + " ", tooMuch(), strings.Repeat("a ", impl.MaxBytes)} {
		got := impl.QueryRead(text)
		if got.Code != impl.ErrSize || got.At != 0 || !sameQuery(got.Query, impl.Query{}) {
			t.Errorf("a text of %d bytes: got %+v, want Code %d alone", len(text), got, impl.ErrSize)
		}
	}
	exact := "find" + strings.Repeat(" ", impl.MaxBytes-5)
	wantRead(t, exact+" ", impl.Query{Limit: -1})
	if got := impl.QueryRead(exact + "  "); got.Code != impl.ErrSize {
		t.Errorf("one byte too many: got Code %d, want %d", got.Code, impl.ErrSize)
	}
}

func TestQueryReadWhereMoreWordsAreNeeded(t *testing.T) {
	for text, at := range map[string]int64{
		"find where":                       2,
		"count where":                      2,
		"find where seq":                   3,
		"find where kind":                  3,
		"find where seq =":                 4,
		"find where step !=":               4,
		"find where seq = 1 and":           6,
		"count where seq = 1 and value":    7,
		"count where seq = 1 and value =":  8,
		"count by":                         2,
		"count where kind = end by":        6,
		"find order":                       2,
		"find limit":                       2,
		"find order run limit":             4,
		"find order run desc limit":        5,
		"find where run < 9 order":         6,
		"find where run < 9 limit":         6,
		"find " + condsOf(5) + " and":      int64(2 + 5*4),
		"find " + condsOf(6) + " order":    int64(1 + 6*4 + 1),
		"find " + condsOf(6) + " limit":    int64(1 + 6*4 + 1),
		"count " + condsOf(6) + " by":      int64(1 + 6*4 + 1),
		"find where step = and and":        6,
		"find where step = limit limit":    6,
		"count where value = by by":        6,
		"find where value = where and seq": 7,
	} {
		wantFault(t, text, at)
		wantFault(t, " "+text+"   ", at)
	}
}

func TestQueryReadWordsInTheWrongPlace(t *testing.T) {
	for text, at := range map[string]int64{
		"a":                                  0,
		"Find":                               0,
		"finds":                              0,
		"fin":                                0,
		"where":                              0,
		"where seq = 1":                      0,
		"seq = 1":                            0,
		"limit 5":                            0,
		"by seq":                             0,
		"find find":                          1,
		"count count":                        1,
		"find count":                         1,
		"count find":                         1,
		"find seq = 1":                       1,
		"find and seq = 1":                   1,
		"find by seq":                        1,
		"find desc":                          1,
		"find 5":                             1,
		"count order seq":                    1,
		"count limit 5":                      1,
		"count limit -1":                     1,
		"count desc":                         1,
		"count kind":                         1,
		"find where where seq = 1":           2,
		"find where and seq = 1":             2,
		"find where limit 5":                 2,
		"find where = 1":                     2,
		"find where 1 = seq":                 2,
		"find where Seq = 1":                 2,
		"find where seq seq = 1":             3,
		"find where seq 1":                   3,
		"find where seq == 1":                3,
		"find where seq =1":                  3,
		"find where seq=1":                   2,
		"find where kind < end":              3,
		"find where step >= a":               3,
		"find where value > a":               3,
		"find where value <= a":              3,
		"find where seq = = 1":               4,
		"find where seq = a":                 4,
		"find where seq = -1":                4,
		"find where kind = a":                4,
		"find where kind = END":              4,
		"find where kind != 1":               4,
		"find where step = A":                4,
		"find where step = 1":                4,
		"find where step = ''":               4,
		"find where value = a-b":             4,
		"find where seq = 1 1":               5,
		"find where seq = 1 where seq = 1":   5,
		"find where seq = 1 seq = 1":         5,
		"find where seq = 1 or seq = 1":      5,
		"find where seq = 1 by seq":          5,
		"find where seq = 1 desc":            5,
		"find where seq = 1 and and seq = 1": 6,
		"find where seq = 1 and limit 5":     6,
		"find where seq = 1 and where":       6,
		"count where seq = 1 order seq":      5,
		"count where seq = 1 limit 5":        5,
		"count by by":                        2,
		"count by a":                         2,
		"count by seq seq":                   3,
		"count by seq by seq":                3,
		"count by seq limit 5":               3,
		"count by seq order seq":             3,
		"count by seq desc":                  3,
		"count by seq where seq = 1":         3,
		"find order order":                   2,
		"find order kind":                    2,
		"find order step":                    2,
		"find order value":                   2,
		"find order desc":                    2,
		"find order limit 5":                 2,
		"find order 1":                       2,
		"find order seq asc":                 3,
		"find order seq time":                3,
		"find order seq order seq":           3,
		"find order seq where seq = 1":       3,
		"find order seq by seq":              3,
		"find order seq desc desc":           4,
		"find order seq desc order":          4,
		"find order seq desc 5":              4,
		"find limit limit":                   2,
		"find limit limit 5":                 2,
		"find limit -1":                      2,
		"find limit a":                       2,
		"find limit desc":                    2,
		"find limit 5 5":                     3,
		"find limit 5 limit 5":               3,
		"find limit 5 order seq":             3,
		"find limit 5 desc":                  3,
		"find limit 5 where seq = 1":         3,
		"find order seq limit 5 desc":        5,
	} {
		wantFault(t, text, at)
	}
}

func TestQueryReadByHowManyConds(t *testing.T) {
	for _, verb := range []string{"find ", "count "} {
		for size := 1; size <= impl.MaxConds; size++ {
			q := impl.Query{Count: verb == "count ", Limit: -1, Conds: slices.Repeat([]impl.Cond{{Field: "seq", Op: "=", N: 1}}, size)}
			wantRead(t, verb+condsOf(size), q)
		}
		for _, size := range []int{impl.MaxConds + 1, impl.MaxConds + 2, 100, 500} {
			wantFault(t, verb+condsOf(size), 1+4*impl.MaxConds)
		}
		wantFault(t, verb+condsOf(impl.MaxConds)+" and", 1+4*impl.MaxConds)
		wantFault(t, verb+condsOf(impl.MaxConds)+" and !", 1+4*impl.MaxConds)
	}
}

func TestQueryReadNumbers(t *testing.T) {
	for _, field := range numberFields() {
		for _, op := range numberOps() {
			for word, n := range map[string]int64{"0": 0, "00": 0, "0000000": 0, "1": 1, "01": 1, "0000001": 1, "9": 9, "12": 12, "123": 123, "1234": 1234,
				"12345": 12345, "123456": 123456, "0123456": 123456, "999999": 999999, "0999999": 999999, "1000000": 1000000} {
				wantRead(t, "find where "+field+" "+op+" "+word, asking(impl.Cond{Field: field, Op: op, N: n}))
			}
			for _, word := range wrongNumbers() {
				wantFault(t, "find where "+field+" "+op+" "+word, 4)
			}
			wantFault(t, "count where "+field+" "+op+" 1000001 by a", 4)
			wantFault(t, "count where "+field+" "+op+" 9999999", 4)
		}
	}
}

// wrongNumbers: words that are no numbers, or of too many digits.
func wrongNumbers() []string {
	return []string{"1000001", "1000010", "2000000", "9999999", "00000000", "00000001", "01000000", "10000000", "99999999", "000000000000000000005",
		"18446744073709551616", "18446744073709551617", "+1", "-1", "-0", "+0", "1-", "1.", "1.0", ".5", "1e3", "0x1", "1_0", "1,0", "a", "1a", "a1", "\u0661", "1\t", "\t1", "\xb1", "/", ":",
		"1/", "1:", "/1", ":1", "0b1", "0o7", "''", "=", "NaN"}
}

func TestQueryReadLimits(t *testing.T) {
	for word, n := range map[string]int64{"0": 0, "00": 0, "0000000": 0, "1": 1, "7": 7, "10": 10, "99": 99, "099": 99, "100": 100, "199": 199, "200": 200, "0200": 200, "0000200": 200} {
		wantRead(t, "find limit "+word, impl.Query{Limit: n})
		wantRead(t, "find order time desc limit "+word, impl.Query{Order: "time", Down: true, Limit: n})
	}
	for _, word := range append(wrongNumbers(), "201", "0201", "300", "1000", "1000000", "0000201", "00000200", "1000200") {
		wantFault(t, "find limit "+word, 2)
		wantFault(t, "find order time limit "+word, 4)
		wantFault(t, "find limit "+word+" 5", 2)
	}
}

func TestQueryReadWords(t *testing.T) {
	for _, op := range []string{"=", "!="} {
		for _, word := range someNames() {
			wantRead(t, "find where step "+op+" "+word, asking(impl.Cond{Field: "step", Op: op, Word: word}))
			wantRead(t, "find where value "+op+" "+word, asking(impl.Cond{Field: "value", Op: op, Word: word}))
		}
		for _, word := range noNames() {
			if word == "" || strings.Contains(word, " ") {
				continue
			}
			for _, field := range wordFields() {
				wantFault(t, "find where "+field+" "+op+" "+word, 4)
			}
		}
	}
	wantFault(t, "find where step = a b", 5)
	wantRead(t, "find where step = and and value = limit limit 5",
		impl.Query{Conds: []impl.Cond{{Field: "step", Op: "=", Word: "and"}, {Field: "value", Op: "=", Word: "limit"}}, Limit: 5})
	wantRead(t, "count where value = by by value",
		impl.Query{Count: true, Conds: []impl.Cond{{Field: "value", Op: "=", Word: "by"}}, By: "value", Limit: -1})
}

// Only blanks part words: each other byte belongs to the word that it stands in.
func TestQueryReadWhatPartsWords(t *testing.T) {
	for b := range 256 {
		by := string([]byte{byte(b)})
		if b == ' ' {
			wantRead(t, "find"+by+"limit"+by+"5", impl.Query{Limit: 5})
			continue
		}
		wantFault(t, "find"+by+"limit 5", 0)
		wantFault(t, by+"find limit 5", 0)
		wantFault(t, by+" find limit 5", 0)
		wantFault(t, "find "+by+" limit 5", 1)
		wantFault(t, "find limit"+by+" 5", 1)
		wantFault(t, "find limit 5 "+by, 3)
		if b < '0' || b > '9' {
			wantFault(t, "find limit 5"+by, 2)
			wantFault(t, "find limit "+by+"5", 2)
		}
	}
	for _, by := range []string{"\u00a0", "\u0085", "\u2003", "\u3000", "\ufeff", "\xc2\x85", "\xe2\x80", "\r\n", "\x00"} {
		wantFault(t, "count"+by+"by kind", 0)
		wantFault(t, "count by kind"+by, 2)
		wantFault(t, "count by"+by+"kind", 1)
		wantFault(t, "count "+by+" by kind", 1)
	}
}

// The words of right queries, with some of them missing, doubled, or in the place of another.
func TestQueryReadAsTheDocumentSays(t *testing.T) {
	source := rand.New(rand.NewSource(72))
	other := append(allFields(), "find", "count", "where", "and", "by", "order", "desc", "limit", "=", "<=", "!=", "1", "0000", "201", "1000001", "end", "a", "A", "\t", longWord(21))
	for _, q := range eachQuery(source) {
		words := strings.Split(written(q), " ")
		for place := range words {
			wantAsTold(t, slices.Delete(slices.Clone(words), place, place+1))
			wantAsTold(t, slices.Insert(slices.Clone(words), place, words[place]))
			wantAsTold(t, words[:place])
			changed := slices.Clone(words)
			changed[place] = somePick(source, other...)
			wantAsTold(t, changed)
			changed[source.Intn(len(words))] = somePick(source, other...)
			wantAsTold(t, changed)
			one := source.Intn(len(words))
			changed = slices.Clone(words)
			changed[place], changed[one] = changed[one], changed[place]
			wantAsTold(t, changed)
			wantAsTold(t, slices.Insert(slices.Clone(words), place, somePick(source, other...)))
		}
		wantAsTold(t, append(slices.Clone(words), somePick(source, other...)))
	}
	for range 4000 {
		var words []string
		for range source.Intn(7) {
			words = append(words, somePick(source, other...))
		}
		wantAsTold(t, words)
		wantAsTold(t, append([]string{"find"}, words...))
		wantAsTold(t, append([]string{"count", "where", "seq", "=", "1"}, words...))
	}
}

// wantAsTold: these words are read as the second telling has it, and what is read is a right Query.
func wantAsTold(t *testing.T, words []string) {
	t.Helper()
	text := strings.Join(words, " ")
	if at := faultAt(words); at >= 0 {
		wantFault(t, text, int64(at))
		return
	}
	got := impl.QueryRead(text)
	if got.Code != impl.OK || got.At != 0 || !queryRight(got.Query) {
		t.Fatalf("%q: got %+v, want a right Query", text, got)
	}
	plain := slices.Clone(words)
	for i, word := range plain {
		if digits := strings.TrimLeft(word, "0"); digits == "" {
			plain[i] = "0"
		} else {
			plain[i] = digits
		}
	}
	if back := written(got.Query); back != strings.Join(plain, " ") {
		t.Errorf("%q: is read as %q", text, back)
	}
}

func TestQueryReadAnyBytes(t *testing.T) {
	source := rand.New(rand.NewSource(73))
	for range 3000 {
		text := []byte(written(somePick(source, eachEnd()...)))
		for range 1 + source.Intn(3) {
			text[source.Intn(len(text))] = byte(source.Intn(256))
		}
		words := slices.DeleteFunc(strings.Split(string(text), " "), func(word string) bool { return word == "" })
		if at := faultAt(words); at >= 0 {
			wantFault(t, string(text), int64(at))
		} else if got := impl.QueryRead(string(text)); got.Code != impl.OK {
			t.Errorf("%q: got Code %d, want none", text, got.Code)
		}
	}
	for size := range 300 {
		impl.QueryRead(filled(size * 20))
	}
	wantFault(t, strings.Repeat("a ", impl.MaxBytes/2), 0)
	wantFault(t, "find "+strings.Repeat("a ", impl.MaxBytes/2-3), 1)
}

func TestQueryReadIsNew(t *testing.T) {
	source := rand.New(rand.NewSource(74))
	for _, q := range eachQuery(source) {
		text := strings.Clone(" " + written(q))
		was := strings.Clone(text)
		got := impl.QueryRead(text)
		wantApart(t, "QueryRead", queryTexts(got.Query), []string{text})
		clear(got.Query.Conds[:cap(got.Query.Conds)])
		wantRead(t, text, q)
		if text != was {
			t.Errorf("QueryRead changed what it was given")
		}
	}
}
