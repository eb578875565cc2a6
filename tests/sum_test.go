package tests

import (
	"strings"
	"testing"

	"loop.example/ashlar/impl"
)

// summingUp is columns that sum up, or stand beside what does, of an x that is anything; many go wrong with some x.
func summingUp() []string {
	return []string{"x", "1", "(x < 1)", "(x + 1)", "(x + 'a')", "(x IN [1, 2])", "(NOT x)", "count(*)", "sum(x)", "sum(1)", "sum((x + 1))", "sum(1000000000)", "sum((x + 'a'))", "sum(size(x))", "sum(x.n)", "sum($none)"}
}

// someColumns is up to ItemMax of these, of which one at least sums up.
func someColumns(d *dice) []string {
	all := summingUp()
	some := []string{all[7+d.roll(5)]}
	for range d.roll(1 + d.roll(impl.ItemMax)) {
		some = append(some, all[d.roll(len(all))])
	}
	at := d.roll(len(some))
	some[0], some[at] = some[at], some[0]
	return some
}

// asReturn and asWith are questions of these columns, of each of $l.
func asReturn(columns []string) string {
	return "UNWIND $l AS x RETURN " + named(columns)
}

func asWith(columns []string) string {
	return "UNWIND $l AS x WITH " + named(columns) + " RETURN " + named(columnNames(columns))
}

func columnNames(columns []string) []string {
	var all []string
	for i := range columns {
		all = append(all, string(rune('a'+i)))
	}
	return all
}

func named(columns []string) string {
	var all []string
	for i, name := range columnNames(columns) {
		all = append(all, columns[i]+" AS "+name)
	}
	return strings.Join(all, ", ")
}

// someValues is a list of up to ListMax values, of which most are numbers.
func someValues(d *dice) []impl.Value {
	var some []impl.Value
	for range 1 + d.roll(impl.ListMax) {
		some = append(some, []impl.Value{num(1), num(1), num(-1), num(2), num(impl.NumMax), num(impl.NumMax), num(-impl.NumMax), null(), text("a"), yes(), list(num(1)), nodeRef(0)}[d.roll(7+d.roll(6))])
	}
	return some
}

// askRowByRow asks of more and more of some values: the code of the first rows stays the code, whatever comes behind them; it is how many of them there are ahead of it, and what is told of all.
func askRowByRow(t *testing.T, s string, all []impl.Value) (fine int, told impl.Table, last int) {
	t.Helper()
	for size := range len(all) + 1 {
		given := cell("l", list(all[:size]...))
		g, table, code := run(t, town(), nil, s, given)
		if last != 0 && code != last {
			t.Fatalf("%s of %+v: %d, of one row less %d", s, all[:size], code, last)
		}
		if code != 0 && (!same(g, town()) || !same(table, impl.Table{})) {
			t.Fatalf("%s of %+v: something is left behind", s, all[:size])
		}
		if _, want, wantCode := slowRun(town(), nil, question(t, s), []impl.Cell{given}); code != wantCode || !same(table, want) {
			t.Fatalf("%s of %+v: %+v %d, not %+v %d", s, all[:size], table, code, want, wantCode)
		}
		if code == 0 {
			fine = size
		}
		told, last = table, code
	}
	return fine, told, last
}

// Promises 37 and 78: codes come row by row; RETURN, and WITH and RETURN of its names, tell the same, codes too.
func TestPromise37CodesComeRowByRow(t *testing.T) {
	d, codes, late := dice(71), map[int]int{}, 0
	for range 4000 {
		columns, all := someColumns(&d), someValues(&d)
		fine, table, code := askRowByRow(t, asReturn(columns), all)
		if _, table2, code2 := askRowByRow(t, asWith(columns), all); code2 != code || !same(table2, table) {
			t.Fatalf("%s of %+v: %+v %d, not %+v %d", asWith(columns), all, table2, code2, table, code)
		}
		codes[code]++
		if code != 0 && fine > 0 {
			late++
		}
	}
	if codes[0] < 300 || codes[impl.ErrType] < 300 || codes[impl.ErrNum] < 300 || codes[impl.ErrName] < 100 || late < 500 {
		t.Error(codes, late)
	}
}

// Of a row columns that do not sum up come first, in order, then those that do, in order.
func TestCodesOfOneRow(t *testing.T) {
	for _, c := range []struct {
		columns []string
		first   impl.Value
		code    int
	}{
		{[]string{"sum('a')", "(x + 1000000000)"}, num(1), impl.ErrNum},
		{[]string{"sum('a')", "(x + 1000000000)"}, num(0), impl.ErrType},
		{[]string{"(x + 1)", "sum($none)", "(x + 'a')"}, num(1), impl.ErrType},
		{[]string{"(x + 1)", "sum($none)", "(x + 'a')"}, num(impl.NumMax), impl.ErrNum},
		{[]string{"count(*)", "sum($none)", "sum('a')"}, num(1), impl.ErrName},
		{[]string{"sum('a')", "count(*)", "sum($none)"}, num(1), impl.ErrType},
		{[]string{"sum((x + 1))", "sum('a')"}, num(impl.NumMax), impl.ErrNum},
		{[]string{"sum((x + 1))", "sum('a')"}, num(impl.NumMax - 1), impl.ErrType},
	} {
		for _, behind := range []impl.Value{num(0), num(impl.NumMax), text("a"), yes(), null()} {
			for _, s := range []string{asReturn(c.columns), asWith(c.columns)} {
				if _, _, code := run(t, impl.Graph{}, nil, s, cell("l", list(c.first, behind))); code != c.code {
					t.Errorf("%s of %+v, %+v: %d, not %d", s, c.first, behind, code, c.code)
				}
			}
		}
	}
}

// Rows that are put together have a sum of their own; its limit may be met exactly, at each row.
func TestSumsOfRowsPutTogether(t *testing.T) {
	checkRun(t, []runCase{
		{"UNWIND [1000000000, 1] AS x RETURN x AS x, sum(x) AS s", "1000000000,1000000000 1,1", 0},
		{"UNWIND [1000000000, 1, 1000000000] AS x RETURN x AS x, sum(x) AS s", "", impl.ErrNum},
		{"UNWIND [1000000000, 1, 1000000000, 'a'] AS x RETURN x AS x, sum(x) AS s", "", impl.ErrNum},
		{"UNWIND [1000000000, 'a', 1000000000] AS x RETURN x AS x, sum(x) AS s", "", impl.ErrType},
		{"UNWIND [500000000, 1, 500000000, 1] AS x RETURN sum(x) AS s, x AS x, count(*) AS c", "1000000000,500000000,2 2,1,2", 0},
		{"UNWIND [1000000000, 1, -1] AS x RETURN sum(x) AS s", "", impl.ErrNum},
		{"UNWIND [-1000000000, -1, 1] AS x RETURN sum(x) AS s", "", impl.ErrNum},
		{"UNWIND [1000000000, -1, 1] AS x RETURN sum(x) AS s", "1000000000", 0},
		{"UNWIND [-1000000000, 1, -1] AS x RETURN sum(x) AS s", "-1000000000", 0},
		{"UNWIND [1000000000, null, 0] AS x RETURN sum(x) AS s", "1000000000", 0},
		{"UNWIND [1000000000, 1, 'a'] AS x WITH sum(x) AS s RETURN s AS s", "", impl.ErrNum},
		{"UNWIND [1000000000, 'a', 1] AS x WITH sum(x) AS s RETURN s AS s", "", impl.ErrType},
		{"UNWIND [1000000000, 1, -1] AS x RETURN sum(x) AS s LIMIT 0", "", impl.ErrNum},
		{"CREATE (a:Q) WITH a AS a UNWIND [1000000000, 1, -1] AS x WITH a AS a, sum(x) AS s SET a.s = s", "", impl.ErrNum},
	})
}
