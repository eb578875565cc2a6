package tests

import (
	"slices"
	"strconv"
	"testing"

	"loop.example/ashlar/impl"
)

// run is what Run answers to a text, which must be a question.
func run(t *testing.T, g impl.Graph, rules []impl.Rule, s string, given ...impl.Cell) (impl.Graph, impl.Table, int) {
	t.Helper()
	return impl.Run(g, rules, question(t, s), given)
}

// rowsOf is the rows of a question that only asks, and does not go wrong.
func rowsOf(t *testing.T, g impl.Graph, s string, given ...impl.Cell) [][]impl.Value {
	t.Helper()
	_, table, code := run(t, g, nil, s, given...)
	if code != 0 {
		t.Fatalf("%s: code %d", s, code)
	}
	return table.Rows
}

func columnAt(rows [][]impl.Value, at int) []impl.Value {
	var all []impl.Value
	for _, row := range rows {
		all = append(all, row[at])
	}
	return all
}

// Promise 37: a graph is ok, and holds its rules, whatever is asked; what goes wrong changes nothing.
func TestPromise37GraphHoldsItsRules(t *testing.T) {
	wrong, changed := 0, 0
	for _, s := range someSpoken(t, 5000) {
		g, table, code := impl.Run(s.g, s.rules, s.q, spokenGiven())
		if !impl.GraphOk(g) || !impl.RulesHold(g, s.rules) {
			t.Fatalf("%s leaves %s", s.text, show(g))
		}
		if (code != 0 || !impl.QueryWrites(s.q)) && !same(g, s.g) {
			t.Fatalf("%s, code %d, changes %s to %s", s.text, code, show(s.g), show(g))
		}
		if code != 0 && !same(table, impl.Table{}) {
			t.Fatalf("%s, code %d, tells %+v", s.text, code, table)
		}
		if code != 0 {
			wrong++
		} else if !same(g, s.g) {
			changed++
		}
	}
	if wrong < 500 || changed < 500 {
		t.Errorf("%d wrong, %d changed", wrong, changed)
	}
}

// Whatever is asked, by questions that go wrong more often than not, and of what is given that is ok.
func TestPromise37WhateverIsAsked(t *testing.T) {
	graphs, codes := someGraphs(t), map[int]int{}
	rules := []impl.Rule{{Label: "P", Name: "n"}}
	for i, q := range someQuestions(t, 3000) {
		g := graphs[i%len(graphs)]
		got, table, code := impl.Run(g, rules, q, evalGiven())
		if !impl.RulesHold(g, rules) {
			if code != impl.ErrForm || !same(got, impl.Graph{}) || !same(table, impl.Table{}) {
				t.Fatalf("of a graph that breaks rules: %d", code)
			}
			continue
		}
		want, wantTable, wantCode := slowRun(g, rules, q, evalGiven())
		if code != wantCode || !same(got, want) || !same(table, wantTable) || !impl.RulesHold(got, rules) {
			t.Fatalf("%s of %s: %d %+v, not %d %+v", impl.QueryPut(q), show(g), code, table, wantCode, wantTable)
		}
		codes[code]++
	}
	if codes[0] < 100 || codes[impl.ErrType] < 100 || codes[impl.ErrForm] > 0 {
		t.Error(codes)
	}
}

// asking is those questions that end with RETURN, and go on without a code.
func asking(t *testing.T, count int) []spoken {
	t.Helper()
	var all []spoken
	for _, s := range someSpoken(t, count) {
		_, _, code := impl.Run(s.g, s.rules, s.q, spokenGiven())
		if code == 0 && s.q[len(s.q)-1].Kind == impl.ClauseReturn {
			all = append(all, s)
		}
	}
	if len(all) < count/4 {
		t.Fatalf("%d of %d end with RETURN", len(all), count)
	}
	return all
}

// withEnd is a question with another end.
func withEnd(q []impl.Clause, ends ...impl.Clause) []impl.Clause {
	return append(slices.Clone(q[:len(q)-1]), ends...)
}

// tellBy is what a question tells; it must not go wrong.
func tellBy(t *testing.T, s spoken, q []impl.Clause) (impl.Graph, impl.Table) {
	t.Helper()
	g, table, code := impl.Run(s.g, s.rules, q, spokenGiven())
	if code != 0 {
		t.Fatalf("%s of %s: code %d", impl.QueryPut(q), show(s.g), code)
	}
	return g, table
}

// Promise 38: rows are as many as are counted.
func TestPromise38RowsAreCounted(t *testing.T) {
	rows := 0
	for _, s := range asking(t, 4000) {
		_, all := tellBy(t, s, withEnd(s.q, end()))
		_, counted := tellBy(t, s, withEnd(s.q, giveBack(item(impl.Expr{Kind: impl.ExprCount}, "c"))))
		if want := tableOf("c", values(num(len(all.Rows)))); !same(counted, want) {
			t.Fatalf("%s of %s: %+v, not %+v", s.text, show(s.g), counted, want)
		}
		rows += len(all.Rows)
	}
	if rows < 1000 {
		t.Errorf("%d rows", rows)
	}
}

// Promise 39: how rows are chosen is how the table is arranged.
func TestPromise39RowsAreArranged(t *testing.T) {
	d, fewer := dice(53), 0
	for _, s := range asking(t, 4000) {
		last := s.q[len(s.q)-1]
		whole := last
		whole.Distinct, whole.Orders, whole.Skip, whole.Limit = false, nil, -1, -1
		_, all := tellBy(t, s, withEnd(s.q, whole))
		last.Distinct, last.Orders, last.Skip, last.Limit = d.roll(2) == 0, someOrders(&d, all), d.roll(4)-1, d.roll(9)-1
		_, got := tellBy(t, s, withEnd(s.q, last))
		want, ok := impl.Arrange(all, last.Distinct, last.Orders, last.Skip, last.Limit)
		if !ok || !same(got, want) {
			t.Fatalf("%s: %+v, not %+v", impl.QueryPut(withEnd(s.q, last)), got, want)
		}
		if len(got.Rows) < len(all.Rows) {
			fewer++
		}
	}
	if fewer < 200 {
		t.Errorf("fewer %d times", fewer)
	}
}

// sumsUpAlone says whether a question has a WITH or a RETURN of count and sum alone, which makes a row of none.
func sumsUpAlone(q []impl.Clause) bool {
	return slices.ContainsFunc(q, func(c impl.Clause) bool {
		return len(c.Items) > 0 && !slices.ContainsFunc(c.Items, isNoSum)
	})
}

// Promise 40: what is always so leaves all rows, and what is never so leaves none.
func TestPromise40AlwaysAndNever(t *testing.T) {
	alone := 0
	for _, s := range someSpoken(t, 3000) {
		g, table, code := impl.Run(s.g, s.rules, s.q, spokenGiven())
		always := append([]impl.Clause{where(value(yes()))}, s.q...)
		if again, table2, code2 := impl.Run(s.g, s.rules, always, spokenGiven()); code2 != code || !same(again, g) || !same(table2, table) {
			t.Fatalf("%s: %d, with WHERE true %d", s.text, code, code2)
		}
		for _, never := range []impl.Value{no(), null()} {
			again, none, code := impl.Run(s.g, s.rules, append([]impl.Clause{where(value(never))}, s.q...), spokenGiven())
			if sumsUpAlone(s.q) {
				alone++
				continue
			}
			if code != 0 || !same(again, s.g) || len(none.Rows) != 0 || !slices.Equal(none.Names, impl.QueryNames(s.q)) {
				t.Fatalf("%s with WHERE %s: %+v %d", s.text, impl.ValuePut(never), none, code)
			}
		}
	}
	if alone < 100 {
		t.Errorf("count and sum alone %d times", alone)
	}
}

// Promise 41: who only asks, and asks again, is told the same.
func TestPromise41AskedAgain(t *testing.T) {
	asked := 0
	for _, s := range someSpoken(t, 4000) {
		if impl.QueryWrites(s.q) {
			continue
		}
		asked++
		g, table, code := impl.Run(s.g, s.rules, s.q, spokenGiven())
		more := append([]impl.Cell{cell("more", list(nodeRef(1))), cell("a", num(1))}, spokenGiven()...)
		for _, given := range [][]impl.Cell{spokenGiven(), more} {
			if again, table2, code2 := impl.Run(g, s.rules, s.q, given); code2 != code || !same(again, g) || !same(table2, table) {
				t.Fatalf("%s: %d %+v, again %d %+v", s.text, code, table, code2, table2)
			}
		}
	}
	if asked < 1000 {
		t.Errorf("asked %d times", asked)
	}
}

// Promise 42: what is made is found.
func TestPromise42WhatIsMadeIsFound(t *testing.T) {
	full, made := 0, 0
	for _, g := range append(matchGraphs(80), someGraphs(t)...) {
		got, table, code := run(t, g, nil, "CREATE (a:New {n: 1})-[e:NEW]->(b:New {n: 2}) RETURN a AS a, e AS e, b AS b")
		room := len(g.Nodes)+2 <= impl.NodeMax && len(g.Edges)+1 <= impl.EdgeMax && g.NextNode+2 <= impl.NumMax && g.NextEdge+1 <= impl.NumMax
		if !room {
			full++
			if code != impl.ErrFull || !same(got, g) {
				t.Fatalf("no room: %d", code)
			}
			continue
		}
		made++
		want := impl.Graph{
			Nodes:    append(slices.Clone(g.Nodes), impl.Node{Id: g.NextNode, Labels: []string{"New"}, Props: []impl.Prop{prop("n", num(1))}}, impl.Node{Id: g.NextNode + 1, Labels: []string{"New"}, Props: []impl.Prop{prop("n", num(2))}}),
			Edges:    append(slices.Clone(g.Edges), impl.Edge{Id: g.NextEdge, Kind: "NEW", From: g.NextNode, To: g.NextNode + 1}),
			NextNode: g.NextNode + 2, NextEdge: g.NextEdge + 1,
		}
		row := values(nodeRef(g.NextNode), edgeRef(g.NextEdge), nodeRef(g.NextNode+1))
		if code != 0 || !same(got, want) || !same(table, tableOf("a e b", row)) {
			t.Fatalf("%d %s %+v", code, show(got), table)
		}
		if found := rowsOf(t, got, "MATCH (a {n: 1})-[e:NEW]->(b:New) RETURN a AS a, e AS e, b AS b"); !same(found, [][]impl.Value{row}) {
			t.Fatalf("found: %+v", found)
		}
	}
	if full < 10 || made < 50 {
		t.Errorf("%d made, %d full", made, full)
	}
}

// Promise 43: what is taken away is found no more.
func TestPromise43WhatIsTakenAway(t *testing.T) {
	held, free := 0, 0
	for _, g := range append(matchGraphs(80), someGraphs(t)...) {
		for _, label := range []string{"P", "Q", "A", "none"} {
			ids := impl.NodesWith(g, label)
			got, _, code := run(t, g, nil, "MATCH (a:"+label+") DETACH DELETE a")
			want := leave(g, func(n impl.Node) bool { return !slices.Contains(ids, n.Id) }, func(e impl.Edge) bool { return !slices.Contains(ids, e.From) && !slices.Contains(ids, e.To) })
			if code != 0 || len(impl.NodesWith(got, label)) != 0 || !same(got, want) {
				t.Fatalf("DETACH DELETE of %s in %s: %d %s", label, show(g), code, show(got))
			}
			edges := slices.ContainsFunc(ids, func(id int) bool { return len(impl.EdgesOf(g, id, 0, "")) > 0 })
			got, _, code = run(t, g, nil, "MATCH (a:"+label+") DELETE a")
			if edges {
				held++
				if code != impl.ErrHeld || !same(got, g) {
					t.Fatalf("DELETE of %s in %s: %d", label, show(g), code)
				}
				continue
			}
			free++
			if code != 0 || !same(got, want) {
				t.Fatalf("DELETE of %s in %s: %d %s", label, show(g), code, show(got))
			}
		}
	}
	if held < 50 || free < 50 {
		t.Errorf("%d held, %d free", held, free)
	}
}

// Promise 44: what is set is read.
func TestPromise44WhatIsSetIsRead(t *testing.T) {
	full, set := 0, 0
	for _, g := range append(matchGraphs(40), someGraphs(t)...) {
		for _, label := range []string{"P", "Q", "A"} {
			ids := impl.NodesWith(g, label)
			want, room := g, true
			for _, id := range ids {
				next, ok := impl.PropSet(want, nodeRef(id), "k", list(num(4)))
				want, room = next, room && ok
			}
			got, table, code := run(t, g, nil, "MATCH (a:"+label+") SET a.k = [4] RETURN a.k AS k, a AS a")
			if !room {
				full++
				if code != impl.ErrFull || !same(got, g) {
					t.Fatalf("no room: %d", code)
				}
				continue
			}
			if code != 0 || !same(got, want) || len(table.Rows) != len(ids) {
				t.Fatalf("%d %s, not %s", code, show(got), show(want))
			}
			for i, row := range table.Rows {
				set++
				if !same(row, values(list(num(4)), nodeRef(ids[i]))) {
					t.Fatalf("%+v", table)
				}
			}
		}
	}
	if full < 3 || set < 100 {
		t.Errorf("%d set, %d full", set, full)
	}
}

// Promise 45: what may be missing leaves no row out.
func TestPromise45WhatMayBeMissing(t *testing.T) {
	missing := 0
	for _, g := range append(matchGraphs(80), someGraphs(t)...) {
		for _, label := range []string{"", ":P", ":Q", ":none"} {
			var want [][]impl.Value
			for _, id := range impl.NodesWith(g, label[min(1, len(label)):]) {
				out := impl.EdgesOf(g, id, 1, "")
				for _, e := range out {
					at := slices.Index(edgeIds(g), e)
					want = append(want, values(nodeRef(id), edgeRef(e), nodeRef(g.Edges[at].To)))
				}
				if len(out) == 0 {
					missing++
					want = append(want, values(nodeRef(id), null(), null()))
				}
			}
			if got := rowsOf(t, g, "MATCH (a"+label+") OPTIONAL MATCH (a)-[e]->(b) RETURN a AS a, e AS e, b AS b"); !same(got, want) {
				t.Fatalf("%s of %s: %+v, not %+v", label, show(g), got, want)
			}
		}
	}
	if missing < 100 {
		t.Errorf("missing %d times", missing)
	}
}

// someLists is lists of numbers, of nothing here and there, and, seldom, of what is no number.
func someLists(count int) [][]impl.Value {
	d, most, least := dice(59), num(impl.NumMax), num(-impl.NumMax)
	lists := [][]impl.Value{nil, {most}, {least, null()}, {most, num(1)}, {num(-1), least}, {most, num(1), num(-1)}, {least, num(-1), num(1)}, {most, num(-1), num(1)}, {most, least, most}, {null(), null()}, {most, num(1), text("a")}, {most, text("a"), num(1)}, {least, num(-1), yes()}, {least, null(), list(num(1)), num(-1)}}
	for range count {
		var one []impl.Value
		for range d.roll(impl.ListMax + 1) {
			one = append(one, []impl.Value{num(d.roll(20) - 10), num(d.roll(20) - 10), num(d.roll(20) - 10), num(impl.NumMax / 2), num(impl.NumMax / 2), num(-impl.NumMax), num(-1), null(), null(), text("x"), yes(), list(num(1))}[d.roll(9+d.roll(4))])
		}
		lists = append(lists, one)
	}
	return lists
}

// oneByOne is the sum of a list, and a code as soon as there is one.
func oneByOne(values []impl.Value) (int, int) {
	total := 0
	for _, v := range values {
		if v.Kind != impl.IsNum && v.Kind != impl.IsNull {
			return 0, impl.ErrType
		}
		if total += v.Num; total > impl.NumMax || total < -impl.NumMax {
			return 0, impl.ErrNum
		}
	}
	return total, 0
}

// Promise 46: what is summed up is summed up one by one.
func TestPromise46SumAndCount(t *testing.T) {
	codes := map[int]int{}
	for _, one := range someLists(600) {
		total, wantCode := oneByOne(one)
		want := impl.Table{}
		if wantCode == 0 {
			want = tableOf("s c t", values(num(total), num(len(one)), num(total)))
		}
		for _, s := range []string{"RETURN sum(x) AS s, count(*) AS c, sum(x) AS t", "WITH sum(x) AS s, count(*) AS c, sum(x) AS t RETURN s AS s, c AS c, t AS t"} {
			if _, table, code := run(t, impl.Graph{}, nil, "UNWIND $l AS x "+s, cell("l", list(one...))); code != wantCode || !same(table, want) {
				t.Fatalf("%s of %+v: %+v %d, not %+v %d", s, one, table, code, want, wantCode)
			}
		}
		codes[wantCode]++
	}
	if codes[0] < 100 || codes[impl.ErrType] < 50 || codes[impl.ErrNum] < 50 {
		t.Error(codes)
	}
}

// Promise 47: rows that are put together are as many as all.
func TestPromise47RowsPutTogether(t *testing.T) {
	more := 0
	for _, g := range append(matchGraphs(80), someGraphs(t)...) {
		for _, name := range []string{"n", "m", "a", "name", "none"} {
			all := columnAt(rowsOf(t, g, "MATCH (a) RETURN a."+name+" AS n"), 0)
			rows := rowsOf(t, g, "MATCH (a) RETURN a."+name+" AS n, count(*) AS c")
			total, once := 0, columnAt(rows, 0)
			for i, row := range rows {
				total += row[1].Num
				count := 0
				for _, v := range all {
					if same(v, row[0]) {
						count++
					}
				}
				if count != row[1].Num || slices.ContainsFunc(once[:i], func(v impl.Value) bool { return same(v, row[0]) }) {
					t.Fatalf("%s of %s: %+v", name, show(g), rows)
				}
				if count > 1 {
					more++
				}
			}
			if total != len(g.Nodes) {
				t.Fatalf("%s of %s: %d of %d", name, show(g), total, len(g.Nodes))
			}
			if firsts, _ := impl.Arrange(impl.Table{Names: []string{"n"}, Rows: rowsOf(t, g, "MATCH (a) RETURN a."+name+" AS n")}, true, nil, -1, -1); !same(columnAt(firsts.Rows, 0), once) {
				t.Fatalf("%s of %s: not at the place of the first: %+v", name, show(g), rows)
			}
		}
	}
	if more < 100 {
		t.Errorf("put together %d times", more)
	}
}

// Promise 78: what goes on under the same names is the same.
func TestPromise78WithTheSameNames(t *testing.T) {
	for _, s := range asking(t, 4000) {
		last := s.q[len(s.q)-1]
		g, table := tellBy(t, s, s.q)
		on, names := last, giveBack()
		on.Kind = impl.ClauseWith
		for _, i := range last.Items {
			names.Items = append(names.Items, item(variable(i.Name), i.Name))
		}
		again, table2 := tellBy(t, s, withEnd(s.q, on, names))
		if !same(again, g) || !same(table2, table) {
			t.Fatalf("%s: %+v, not %+v", impl.QueryPut(withEnd(s.q, on, names)), table2, table)
		}
	}
}

// Promise 79: each of a list is a row.
func TestPromise79EachOfAListIsARow(t *testing.T) {
	all := ascendingValues()
	d := dice(61)
	for range 300 {
		var one []impl.Value
		for range d.roll(impl.ListMax + 1) {
			one = append(one, all[d.roll(len(all))])
		}
		if !impl.ValueOk(list(one...)) {
			continue
		}
		given := cell("l", list(one...))
		if got := columnAt(rowsOf(t, impl.Graph{}, "UNWIND $l AS x RETURN x AS x", given), 0); !same(got, one) {
			t.Fatalf("%+v: %+v", one, got)
		}
		for _, down := range []string{"", " DESC"} {
			got := columnAt(rowsOf(t, impl.Graph{}, "UNWIND $l AS x RETURN x AS x ORDER BY x"+down, given), 0)
			if len(got) != len(one) {
				t.Fatalf("%+v: %+v", one, got)
			}
			for i := range len(got) - 1 {
				if order := impl.ValueOrder(got[i], got[i+1]); order > 0 && down == "" || order < 0 && down != "" {
					t.Fatalf("%+v%s: %+v", one, down, got)
				}
			}
		}
	}
}

// Promise 80: what would break a rule is refused.
func TestPromise80RuleIsNotBroken(t *testing.T) {
	rules := []impl.Rule{{Label: "P", Name: "name"}}
	g := impl.Graph{}
	for i := range 5 {
		next, _, code := run(t, g, rules, "CREATE (a:P {name: $n})", cell("n", text("n"+strconv.Itoa(i))))
		if code != 0 || len(next.Nodes) != i+1 {
			t.Fatalf("%d: code %d", i, code)
		}
		g = next
		for k := range i + 1 {
			again, _, code := run(t, g, rules, "CREATE (a:P {name: $n})", cell("n", text("n"+strconv.Itoa(k))))
			if code != impl.ErrRule || !same(again, g) {
				t.Fatalf("%d again: %d", k, code)
			}
		}
	}
	for s, want := range map[string]int{
		"CREATE (a:P {name: 'n0'})": impl.ErrRule, "CREATE (a:P {name: 'n9'})": 0, "CREATE (a:P {name: null})": 0, "CREATE (a:P), (b:P)": 0, "CREATE (a:Q {name: 'n0'})": 0, "CREATE ({name: 'n0'})": 0, "CREATE (a:P {nam: 'n0'})": 0, "CREATE (a:P {name: ['n0']})": 0,
		"CREATE (a:P {name: 'x'}), (b:P {name: 'x'})": impl.ErrRule, "UNWIND [1, 1] AS x CREATE (:P {name: x})": impl.ErrRule, "UNWIND [1, 2] AS x CREATE (:P {name: x})": 0,
		"MATCH (a {name: 'n0'}) SET a.name = 'n1'": impl.ErrRule, "MATCH (a {name: 'n0'}) SET a.name = 'n0'": 0, "MATCH (a) SET a.name = null": 0, "MATCH (a) SET a.name = 1": impl.ErrRule,
	} {
		got, _, code := run(t, g, rules, s)
		if code != want || code != 0 && !same(got, g) || !impl.RulesHold(got, rules) {
			t.Errorf("%s: %d, not %d", s, code, want)
		}
		if _, _, free := run(t, g, nil, s); free != 0 {
			t.Errorf("%s without rules: %d", s, free)
		}
	}
}
