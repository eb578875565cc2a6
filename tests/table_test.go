package tests

import (
	"math"
	"slices"
	"strings"
	"testing"

	"loop.example/ashlar/impl"
)

func tableOf(names string, rows ...[]impl.Value) impl.Table {
	return impl.Table{Names: strings.Fields(names), Rows: rows}
}

func values(all ...impl.Value) []impl.Value { return all }

// numbered is rows of one number each.
func numbered(nums ...int) [][]impl.Value {
	var rows [][]impl.Value
	for _, n := range nums {
		rows = append(rows, values(num(n)))
	}
	return rows
}

// makeTable is a table that is ok, with rows that come again, and values of all kinds.
func makeTable(d *dice) impl.Table {
	t := impl.Table{Names: []string{"x", "b", "a", "w9", "abcdefgh"}[:d.roll(impl.ItemMax+1)]}
	all := ascendingValues()
	few := 1 + d.roll(len(all))
	for range d.roll(impl.RowMax + 1) {
		var row []impl.Value
		for range t.Names {
			row = append(row, all[(d.roll(3)*few+d.roll(2))%len(all)])
		}
		t.Rows = append(t.Rows, row)
	}
	return t
}

// fullTable meets each limit of a table exactly.
func fullTable() impl.Table {
	t := tableOf("a b c d e2345678")
	for i := range impl.RowMax {
		t.Rows = append(t.Rows, values(num(i%7), null(), list(list(list(), num(i))), text("abcdefghijklmnop"), nodeRef(impl.NumMax-i)))
	}
	return t
}

func someTables(count int) []impl.Table {
	d := dice(41)
	tables := []impl.Table{{}, tableOf("a"), tableOf("", nil, nil), fullTable()}
	for range count {
		tables = append(tables, makeTable(&d))
	}
	return tables
}

// wrongTables is tables that are not ok.
func wrongTables() []impl.Table {
	full := fullTable()
	wide, long := fullTable(), fullTable()
	wide.Names = append(wide.Names, "f")
	for i := range wide.Rows {
		wide.Rows[i] = append(wide.Rows[i], null())
	}
	long.Rows = append(long.Rows, long.Rows[0])
	all := []impl.Table{
		wide, long, {Names: full.Names, Rows: numbered(1)}, {Rows: numbered(1)}, {Rows: make([][]impl.Value, impl.RowMax+1)},
		tableOf("a b", values(num(1), num(2)), values(num(1))), tableOf("a b", values(num(1), num(2), num(3))), tableOf("a", nil), tableOf("a b a"),
	}
	for _, s := range noNames {
		all = append(all, impl.Table{Names: []string{"a", s}})
	}
	for _, v := range wrongValues() {
		all = append(all, tableOf("a b", values(num(1), num(2)), values(num(1), v)))
	}
	return all
}

// someOrders is orders by names of a table.
func someOrders(d *dice, t impl.Table) []impl.Order {
	var orders []impl.Order
	if len(t.Names) > 0 {
		for range d.roll(impl.ItemMax + 1) {
			orders = append(orders, impl.Order{Name: t.Names[d.roll(len(t.Names))], Down: d.roll(2) == 0})
		}
	}
	return orders
}

// arrange is what Arrange answers, which must be true.
func arrange(t *testing.T, table impl.Table, distinct bool, orders []impl.Order, skip int, limit int) impl.Table {
	t.Helper()
	got, ok := impl.Arrange(table, distinct, orders, skip, limit)
	if !ok || !slices.Equal(got.Names, table.Names) {
		t.Fatalf("%+v %v of %+v by %+v, %d, %d", got, ok, table, orders, skip, limit)
	}
	return got
}

// clauseBy is a clause of which chosenLines asks the names and orders.
func clauseBy(table impl.Table, distinct bool, orders []impl.Order, skip int, limit int) impl.Clause {
	c := impl.Clause{Distinct: distinct, Orders: orders, Skip: skip, Limit: limit}
	for _, name := range table.Names {
		c.Items = append(c.Items, item(one, name))
	}
	return c
}

// Promise 34: rows that are chosen are of those that there were, in order.
func TestPromise34RowsAreChosen(t *testing.T) {
	d := dice(43)
	for _, table := range someTables(500) {
		orders, distinct, skip, limit := someOrders(&d, table), d.roll(2) == 0, d.roll(9)-1, d.roll(30)-1
		got := arrange(t, table, distinct, orders, skip, limit)
		if want := chosenLines(clauseBy(table, distinct, orders, skip, limit), table.Rows); !same(got.Rows, want) {
			t.Fatalf("%+v by %v %+v %d %d: %+v", table, distinct, orders, skip, limit, got)
		}
		all := arrange(t, table, distinct, orders, -1, -1)
		for i, row := range all.Rows {
			isRow := func(other []impl.Value) bool { return same(row, other) }
			if !slices.ContainsFunc(table.Rows, isRow) || distinct && slices.ContainsFunc(all.Rows[:i], isRow) {
				t.Fatalf("%+v is none, or comes twice", row)
			}
		}
		if !distinct && len(all.Rows) != len(table.Rows) {
			t.Fatalf("%d rows of %d", len(all.Rows), len(table.Rows))
		}
		if again := arrange(t, all, distinct, orders, -1, -1); !same(again, all) {
			t.Fatalf("%+v, then %+v", all, again)
		}
	}
}

// Rows that are in one place stay as they stand, whichever way they are in order.
func TestPromise34RowsInOnePlaceStay(t *testing.T) {
	table := tableOf("k at")
	for i := range impl.RowMax {
		table.Rows = append(table.Rows, values(num(i*7%3), num(i)))
	}
	for _, down := range []bool{false, true} {
		got := arrange(t, table, false, []impl.Order{{Name: "k", Down: down}}, -1, -1)
		for i, row := range got.Rows[1:] {
			ahead := got.Rows[i]
			if k := row[0].Num - ahead[0].Num; k == 0 && row[1].Num < ahead[1].Num || k != 0 && (k < 0) != down {
				t.Fatalf("%v: %+v behind %+v", down, row, ahead)
			}
		}
	}
}

func TestPromise34Orders(t *testing.T) {
	table := tableOf("a b", values(num(2), text("x")), values(num(1), text("y")), values(num(2), text("w")), values(null(), text("x")), values(num(1), text("x")), values(num(2), text("x")))
	for _, c := range []struct {
		distinct bool
		orders   string
		skip     int
		limit    int
		want     string
	}{
		{false, "", -1, -1, "2x 1y 2w nx 1x 2x"}, {true, "", -1, -1, "2x 1y 2w nx 1x"}, {false, "a", -1, -1, "1y 1x 2x 2w 2x nx"}, {false, "-a", -1, -1, "nx 2x 2w 2x 1y 1x"},
		{false, "a b", -1, -1, "1x 1y 2w 2x 2x nx"}, {false, "b a", -1, -1, "2w 1x 2x 2x nx 1y"}, {false, "a -b", -1, -1, "1y 1x 2x 2x 2w nx"}, {false, "a -a b", -1, -1, "1x 1y 2w 2x 2x nx"},
		{true, "-b a", -1, -1, "1y 1x 2x nx 2w"}, {true, "-b a", 1, 2, "1x 2x"}, {false, "", 0, 0, ""}, {false, "", 5, -1, "2x"}, {false, "", 6, -1, ""}, {false, "", impl.SkipMax, impl.SkipMax, ""}, {false, "", 0, 6, "2x 1y 2w nx 1x 2x"}, {false, "", -1, 1, "2x"}, {true, "", 4, 9, "1x"},
	} {
		var orders []impl.Order
		for _, s := range strings.Fields(c.orders) {
			orders = append(orders, impl.Order{Name: strings.TrimPrefix(s, "-"), Down: s[0] == '-'})
		}
		var got []string
		for _, row := range arrange(t, table, c.distinct, orders, c.skip, c.limit).Rows {
			got = append(got, impl.ValuePut(row[0])[:1]+row[1].Text)
		}
		if s := strings.Join(got, " "); s != c.want {
			t.Errorf("%+v: %s", c, s)
		}
	}
	bare := tableOf("", nil, nil, nil)
	if got := arrange(t, bare, false, nil, 1, -1); len(got.Rows) != 2 {
		t.Errorf("rows without names: %+v", got)
	}
	if got := arrange(t, bare, true, nil, -1, -1); len(got.Rows) != 1 {
		t.Errorf("rows without names, once: %+v", got)
	}
}

func wantNoTable(t *testing.T, what string, table impl.Table, orders []impl.Order, skip int, limit int) {
	t.Helper()
	for _, distinct := range []bool{false, true} {
		if got, ok := impl.Arrange(table, distinct, orders, skip, limit); ok || !same(got, impl.Table{}) {
			t.Errorf("%s: %+v %v", what, got, ok)
		}
	}
}

func TestPromise34WhatIsNotOk(t *testing.T) {
	for _, table := range wrongTables() {
		wantNoTable(t, "table", table, nil, -1, -1)
	}
	a := tableOf("a", values(num(1)))
	six := slices.Repeat([]impl.Order{{Name: "a"}}, impl.ItemMax+1)
	wantNoTable(t, "six orders", a, six, -1, -1)
	wantNoTable(t, "another name", a, []impl.Order{{Name: "a"}, {Name: "b"}}, -1, -1)
	wantNoTable(t, "no name", a, []impl.Order{{}}, -1, -1)
	wantNoTable(t, "orders of no names", impl.Table{}, []impl.Order{{Name: "a"}}, -1, -1)
	for _, n := range []int{math.MinInt, -2, impl.SkipMax + 1, math.MaxInt} {
		wantNoTable(t, "skip", a, nil, n, -1)
		wantNoTable(t, "limit", a, nil, -1, n)
	}
	arrange(t, a, true, six[1:], impl.SkipMax, impl.SkipMax)
	arrange(t, fullTable(), true, nil, 0, 0)
}

// Promise 35: the first so many, and all behind, are all.
func TestPromise35FirstAndAllBehindAreAll(t *testing.T) {
	d := dice(47)
	for _, table := range someTables(200) {
		orders, distinct := someOrders(&d, table), d.roll(2) == 0
		all := arrange(t, table, distinct, orders, -1, -1)
		for _, n := range []int{0, 1, 2, d.roll(impl.RowMax), len(all.Rows), impl.RowMax, impl.SkipMax} {
			first := arrange(t, table, distinct, orders, -1, n)
			rest := arrange(t, table, distinct, orders, n, -1)
			if len(first.Rows) != min(n, len(all.Rows)) || !same(slices.Concat(first.Rows, rest.Rows), all.Rows) {
				t.Fatalf("%d of %+v: %+v and %+v", n, all, first, rest)
			}
			if both := arrange(t, table, distinct, orders, 1, n); !same(both.Rows, all.Rows[min(1, len(all.Rows)):min(n+1, len(all.Rows))]) {
				t.Fatalf("skip ahead of limit %d of %+v: %+v", n, all, both)
			}
		}
	}
}

// Promise 36: a table is written with a line for its names, and one for each row.
func TestPromise36TableIsWritten(t *testing.T) {
	for s, table := range map[string]impl.Table{
		"a\n": tableOf("a"), "x | y\n": tableOf("x y"), "a\n1\nnull\n": tableOf("a", values(num(1)), values(null())),
		"a | e | l\n#0 | @12 | [1, 'x', [null]]\ntrue | '' | 'a | b'\n": tableOf("a e l", values(nodeRef(0), edgeRef(12), list(num(1), text("x"), list(null()))), values(yes(), text(""), text("a | b"))),
	} {
		if got := impl.TablePut(table); got != s {
			t.Errorf("%q, not %q", got, s)
		}
	}
	for _, table := range someTables(300) {
		lines := strings.Split(impl.TablePut(table), "\n")
		if len(table.Names) == 0 {
			if len(lines) != 1 || lines[0] != "" {
				t.Fatalf("no names: %q", lines)
			}
			continue
		}
		if len(lines) != len(table.Rows)+2 || lines[len(lines)-1] != "" || lines[0] != strings.Join(table.Names, " | ") {
			t.Fatalf("%+v: %q", table, lines)
		}
		for i, row := range table.Rows {
			var parts []string
			for _, v := range row {
				parts = append(parts, impl.ValuePut(v))
			}
			if lines[i+1] != strings.Join(parts, " | ") {
				t.Fatalf("%+v: %q", row, lines[i+1])
			}
		}
	}
	for i, table := range wrongTables() {
		if got := impl.TablePut(table); got != "" {
			t.Errorf("wrong table %d: %q", i, got)
		}
	}
}
