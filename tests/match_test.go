package tests

import (
	"slices"
	"testing"

	"loop.example/ashlar/impl"
)

// shapes is patterns of all sizes, all of whose names are new, and all of which are named.
func shapes() [][]impl.Path {
	var all [][]impl.Path
	a, b, c, d := spot("a", ""), spot("b", "P"), spot("c", ""), spot("d", "Q")
	for _, way := range []int{1, -1, 0} {
		for _, kind := range []string{"", "K"} {
			all = append(all,
				[]impl.Path{path(a, hop("e", kind, way, c))},
				[]impl.Path{path(b, hop("e", kind, way, a))},
				[]impl.Path{path(a, hop("e", kind, way, b), hop("f", "", 0, d))},
				[]impl.Path{path(a, hop("e", kind, way, c), hop("f", "L", 1, a))},
				[]impl.Path{path(a, hop("e", kind, way, b)), path(c, hop("f", "", -1, d))},
				[]impl.Path{path(d, hop("e", kind, way, a)), path(a, hop("f", "", 0, c))},
			)
		}
	}
	return append(all, []impl.Path{path(a)}, []impl.Path{path(b)}, []impl.Path{path(b), path(d)}, []impl.Path{path(b), path(spot("c", "", pat("n", prop1("b", "n"))))})
}

func prop1(name string, key string) impl.Expr {
	return impl.Expr{Kind: impl.ExprProp, Name: name, Key: key}
}

// namesOf is the names of patterns in the order in which they are put behind a row.
func namesOf(paths []impl.Path) []string {
	var all []string
	for _, c := range addNothing(nil, paths) {
		all = append(all, c.Name)
	}
	return all
}

func cellNames(row []impl.Cell) []string {
	var all []string
	for _, c := range row {
		all = append(all, c.Name)
	}
	return all
}

// matchGraphs is graphs for patterns.
func matchGraphs(count int) []impl.Graph {
	d := dice(31)
	graphs := []impl.Graph{{}, smallGraph(), fullGraph()}
	for range count {
		graphs = append(graphs, runGraph(&d))
	}
	return graphs
}

// matchRows is rows ahead of patterns: none, names that no pattern has, and names that one has.
func matchRows(g impl.Graph) [][]impl.Cell {
	rows := [][]impl.Cell{nil, {cell("z", list(num(1), null())), cell("y", nodeRef(99))}, {cell("c", null())}, {cell("a", num(1)), cell("d", list())}}
	for i, id := range nodeIds(g) {
		if i%4 == 0 {
			rows = append(rows, []impl.Cell{cell("z", num(1)), cell("a", nodeRef(id))}, []impl.Cell{cell("d", nodeRef(id)), cell("b", edgeRef(id))})
		}
	}
	return rows
}

// Promise 30: each way in which patterns are found has what was there, and each name of theirs, once.
func TestPromise30EachWayHasEachNameOnce(t *testing.T) {
	found, many := 0, 0
	for _, g := range matchGraphs(25) {
		for _, row := range matchRows(g) {
			for _, paths := range shapes() {
				ways, code := impl.Matches(g, row, nil, paths)
				want, wantCode := slowMatches(g, row, nil, paths)
				if code != wantCode || !same(ways, want) {
					t.Fatalf("%+v behind %+v in %s: %+v %d, not %+v %d", paths, row, show(g), ways, code, want, wantCode)
				}
				if code == impl.ErrMany {
					many++
				}
				all := cellNames(row)
				for _, name := range namesOf(paths) {
					if !slices.Contains(all, name) {
						all = append(all, name)
					}
				}
				for i, way := range ways {
					found++
					if !same(way[:len(row)], row) || !slices.Equal(cellNames(way), all) {
						t.Fatalf("%+v behind %+v: %+v", paths, row, way)
					}
					if slices.ContainsFunc(ways[:i], func(other []impl.Cell) bool { return same(way, other) }) {
						t.Fatalf("%+v comes twice", way)
					}
				}
			}
		}
	}
	if found < 10000 || many < 20 {
		t.Errorf("%d ways, %d too many", found, many)
	}
}

// edgesGraph is nodes 0 up to so many less one, without anything, and edges between them.
func edgesGraph(nodes int, ends ...[2]int) impl.Graph {
	g := impl.Graph{NextNode: nodes, NextEdge: len(ends)}
	for i := range nodes {
		g.Nodes = append(g.Nodes, impl.Node{Id: i})
	}
	for i, e := range ends {
		g.Edges = append(g.Edges, impl.Edge{Id: i, Kind: "K", From: e[0], To: e[1]})
	}
	return g
}

// wantWays asks how many ways there are.
func wantWays(t *testing.T, what string, g impl.Graph, row []impl.Cell, want int, paths ...impl.Path) {
	t.Helper()
	if ways, code := impl.Matches(g, row, nil, paths); code != 0 || len(ways) != want {
		t.Errorf("%s: %d ways, not %d, code %d", what, len(ways), want, code)
	}
}

// An edge that one hop had is not there for another one of the same patterns.
func TestPromise30NoEdgeTwice(t *testing.T) {
	any := spot("", "")
	out, either := hop("", "", 1, any), hop("", "", 0, any)
	single := edgesGraph(2, [2]int{0, 1})
	wantWays(t, "there and back", single, nil, 0, path(any, either, either))
	wantWays(t, "in two paths", single, nil, 0, path(any, out), path(any, out))
	wantWays(t, "once", single, nil, 2, path(any, either))
	loop := edgesGraph(1, [2]int{0, 0})
	wantWays(t, "round and round", loop, nil, 0, path(any, out, out))
	wantWays(t, "round", loop, nil, 1, path(any, either))
	wantWays(t, "two ways round", edgesGraph(1, [2]int{0, 0}, [2]int{0, 0}), nil, 2, path(any, either, out))
	double := edgesGraph(2, [2]int{0, 1}, [2]int{0, 1})
	wantWays(t, "two edges, there and back", double, nil, 4, path(any, either, either))
	wantWays(t, "two edges in two paths", double, nil, 2, path(any, out), path(any, out))
	wantWays(t, "one end of both", double, nil, 2, path(spot("a", ""), hop("", "", 1, spot("b", "")), hop("", "", -1, spot("a", ""))))
	wantWays(t, "two paths of two hops", edgesGraph(1, [2]int{0, 0}, [2]int{0, 0}, [2]int{0, 0}, [2]int{0, 0}), nil, 24, path(any, out, either), path(any, out, either))
	edges := []impl.Cell{cell("e", edgeRef(0))}
	wantWays(t, "an edge that the row has may be had", single, edges, 1, path(any, out))
}

// The order is that of nodes, by path and by spot, then of edges.
func TestPromise30WaysAreInOrder(t *testing.T) {
	g := edgesGraph(3, [2]int{1, 0}, [2]int{0, 2}, [2]int{0, 0}, [2]int{2, 0})
	ways, code := impl.Matches(g, []impl.Cell{cell("z", num(7))}, nil, []impl.Path{path(spot("a", ""), hop("e", "", 0, spot("b", "")))})
	want := ""
	for _, way := range ways {
		for _, c := range way {
			want += c.Name + impl.ValuePut(c.Value)
		}
		want += " "
	}
	if code != 0 || want != "z7a#0e@0b#1 z7a#0e@1b#2 z7a#0e@2b#0 z7a#0e@3b#2 z7a#1e@0b#0 z7a#2e@1b#0 z7a#2e@3b#0 " {
		t.Error(want, code)
	}
}

// What the row has under a spot's name is that node, or none is found.
func TestPromise30NamesThatAreThere(t *testing.T) {
	g := edgesGraph(3, [2]int{0, 1}, [2]int{1, 2}, [2]int{2, 2})
	a := spot("a", "")
	for v, want := range map[string]int{"#0": 1, "#2": 1, "#3": 0, "#1000000000": 0, "@1": 0, "1": 0, "null": 0, "true": 0, "'a'": 0, "[]": 0, "[#1]": 0} {
		one, _ := impl.ValueGet(v)
		row := []impl.Cell{cell("a", one)}
		wantWays(t, v, g, row, want, path(a))
		wantWays(t, v+", and another one", g, row, want*3, path(a), path(spot("b", "")))
		wantWays(t, v+", twice", g, row, want, path(a), path(a))
	}
	wantWays(t, "to itself", g, nil, 1, path(a, hop("e", "", 1, a)))
	wantWays(t, "a hop's name as its spot's", g, nil, 0, path(a, hop("e", "", 0, spot("e", ""))))
	wantWays(t, "a spot's name in two paths", g, nil, 2, path(a, hop("e", "", 1, spot("b", ""))), path(spot("b", ""), hop("f", "", 1, spot("c", ""))))
}

// countedNodes is nodes of groups of sizes, those of one group having the same under n.
func countedNodes(sizes ...int) impl.Graph {
	var g impl.Graph
	for n, size := range sizes {
		for range size {
			g.Nodes = append(g.Nodes, impl.Node{Id: g.NextNode, Props: []impl.Prop{prop("n", num(n))}})
			g.NextNode++
		}
	}
	return g
}

// As many ways as there may be rows are found, and one more is too many.
func TestPromise30WaysMeetTheLimit(t *testing.T) {
	pairs := []impl.Path{path(spot("a", "")), path(spot("b", "", pat("n", prop1("a", "n"))))}
	if ways, code := impl.Matches(countedNodes(7, 3, 1, 1), nil, nil, pairs); len(ways) != impl.RowMax || code != 0 {
		t.Errorf("%d ways, code %d", len(ways), code)
	}
	if ways, code := impl.Matches(countedNodes(6, 5), nil, nil, pairs); len(ways) != 0 || code != impl.ErrMany {
		t.Errorf("61: %d ways, code %d", len(ways), code)
	}
	if ways, code := impl.Matches(countedNodes(12), nil, nil, pairs); len(ways) != 0 || code != impl.ErrMany {
		t.Errorf("144: %d ways, code %d", len(ways), code)
	}
}

// What goes wrong first is told.
func TestPromise30FirstCode(t *testing.T) {
	texts := func(at int) impl.Graph {
		g := countedNodes(9)
		g.Nodes[at].Props[0].Value = text("x")
		return g
	}
	added := ofParts(impl.ExprAdd, prop1("a", "n"), value(num(0)))
	pairs := []impl.Path{path(spot("a", "")), path(spot("b", "", pat("n", added)))}
	given := impl.Expr{Kind: impl.ExprParam, Name: "p"}
	great := ofParts(impl.ExprAdd, value(num(impl.NumMax)), one)
	for _, c := range []struct {
		what  string
		g     impl.Graph
		paths []impl.Path
		want  int
	}{
		{"ahead of too many", texts(0), pairs, impl.ErrType},
		{"ahead of too many, within", texts(6), pairs, impl.ErrType},
		{"behind too many", texts(8), pairs, impl.ErrMany},
		{"what is not given", countedNodes(1), []impl.Path{path(spot("", "", pat("n", given)))}, impl.ErrName},
		{"what is too great", countedNodes(1), []impl.Path{path(spot("", "", pat("n", great)))}, impl.ErrNum},
		{"the first prop", countedNodes(1), []impl.Path{path(spot("", "", pat("n", great), pat("m", given)))}, impl.ErrNum},
		{"the first prop, the other way round", countedNodes(1), []impl.Path{path(spot("", "", pat("m", given), pat("n", great)))}, impl.ErrName},
		{"the first spot", countedNodes(1), []impl.Path{path(spot("", "", pat("n", great))), path(spot("", "", pat("n", given)))}, impl.ErrNum},
		{"no node", impl.Graph{}, []impl.Path{path(spot("", "", pat("n", given)))}, 0},
		{"the label does not fit", countedNodes(1), []impl.Path{path(spot("", "P", pat("n", given)))}, 0},
		{"the prop ahead does not fit", countedNodes(1), []impl.Path{path(spot("", "", pat("n", one), pat("m", given)))}, 0},
		{"the spot ahead does not fit", countedNodes(1), []impl.Path{path(spot("", "P")), path(spot("", "", pat("n", given)))}, 0},
		{"no edge", countedNodes(1), []impl.Path{path(spot("", ""), hop("", "", 0, spot("", "", pat("n", given))))}, 0},
	} {
		if ways, code := impl.Matches(c.g, nil, nil, c.paths); code != c.want || len(ways) != 0 {
			t.Errorf("%s: %d %+v", c.what, code, ways)
		}
	}
	if ways, code := impl.Matches(countedNodes(2, 3), nil, []impl.Cell{cell("p", num(1)), cell("q", null())}, []impl.Path{path(spot("a", "", pat("n", given)))}); code != 0 || len(ways) != 3 {
		t.Errorf("what is given: %+v %d", ways, code)
	}
	// A hop's name is there for the props of its spot.
	g := edgesGraph(2, [2]int{0, 1}, [2]int{1, 0})
	g.Nodes[1].Props, g.Edges[0].Props, g.Edges[1].Props = []impl.Prop{prop("n", num(1))}, []impl.Prop{prop("w", num(1))}, []impl.Prop{prop("w", num(2))}
	wantWays(t, "by a prop of the hop", g, nil, 1, path(spot("a", ""), hop("e", "", 0, spot("b", "", pat("n", prop1("e", "w"))))))
}

func wantNoWays(t *testing.T, what string, g impl.Graph, row []impl.Cell, given []impl.Cell, paths []impl.Path) {
	t.Helper()
	if ways, code := impl.Matches(g, row, given, paths); code != impl.ErrForm || len(ways) != 0 {
		t.Errorf("%s: %+v %d", what, ways, code)
	}
}

// wrongCells is cells that are not ok.
func wrongCells() [][]impl.Cell {
	all := [][]impl.Cell{{cell("x", num(1)), cell("y", num(1)), cell("x", num(1))}}
	for _, v := range wrongValues() {
		all = append(all, []impl.Cell{cell("y", num(1)), cell("x", v)})
	}
	for _, s := range noNames {
		all = append(all, []impl.Cell{cell(s, num(1))})
	}
	return all
}

func TestPromise30WhatIsNotOk(t *testing.T) {
	a := []impl.Path{path(spot("a", ""))}
	for what, g := range wrongGraphs() {
		wantNoWays(t, what, g, nil, nil, a)
	}
	for _, cells := range wrongCells() {
		wantNoWays(t, "row", smallGraph(), cells, nil, a)
		wantNoWays(t, "given", smallGraph(), nil, cells, a)
	}
	for _, paths := range wrongPaths() {
		wantNoWays(t, "patterns", smallGraph(), []impl.Cell{cell("z", num(1))}, nil, paths)
		wantNoWays(t, "patterns, of no node", impl.Graph{}, []impl.Cell{cell("z", num(1))}, nil, paths)
	}
	if ways, code := impl.Matches(smallGraph(), []impl.Cell{cell("b", num(1))}, nil, []impl.Path{path(spot("a", "", pat("n", variable("b"))))}); code != 0 || len(ways) != 0 {
		t.Errorf("a name of the row: %+v %d", ways, code)
	}
}

// wrongPaths is patterns that are not ok behind a row of the name z.
func wrongPaths() [][]impl.Path {
	any, h := spot("", ""), hop("", "", 0, spot("", ""))
	count := impl.Expr{Kind: impl.ExprCount}
	all := [][]impl.Path{
		nil, {}, {path(any), path(any), path(any)}, {path(any, h, h, h)}, {path(any), path(any, h, h, h)},
		{path(spot("", "", pat("a", one), pat("b", one), pat("c", one), pat("d", one), pat("e", one)))}, {path(spot("", "", pat("a", one), pat("a", one)))},
		{path(any, hop("", "", 2, any))}, {path(any, hop("", "", -2, any))},
		{path(any, hop("z", "", 0, any))}, {path(spot("a", ""), hop("a", "", 0, any))}, {path(any, hop("e", "", 0, any), hop("e", "", 0, any))}, {path(any, hop("e", "", 0, any)), path(any, hop("e", "", 0, any))}, {path(any, hop("e", "", 0, spot("b", "")), hop("b", "", 0, any))},
		{path(spot("a", "", pat("n", variable("a"))))}, {path(spot("a", "", pat("n", prop1("a", "n"))))}, {path(spot("a", "", pat("n", variable("b"))), hop("", "", 0, spot("b", "")))}, {path(spot("", "", pat("n", variable("e"))), hop("e", "", 0, any))},
		{path(spot("", "", pat("n", count)))}, {path(any, hop("", "", 0, spot("", "", pat("n", ofParts(impl.ExprSum, one)))))}, {path(any), path(spot("", "", pat("n", ofParts(impl.ExprNot, count))))},
	}
	for _, s := range noNames {
		all = append(all, []impl.Path{path(spot("", "", pat(s, one)))})
		if s != "" {
			all = append(all, []impl.Path{path(spot(s, ""))}, []impl.Path{path(spot("", s))}, []impl.Path{path(any, hop(s, "", 0, any))}, []impl.Path{path(any, hop("", s, 0, any))})
		}
	}
	for _, e := range wrongExprs() {
		all = append(all, []impl.Path{path(any, hop("", "", 0, spot("", "", pat("n", e))))})
	}
	return all
}

// idsUnder is the numbers that ways have under a name.
func idsUnder(t *testing.T, ways [][]impl.Cell, code int, name string) []int {
	t.Helper()
	if code != 0 {
		t.Fatalf("code %d", code)
	}
	var ids []int
	for _, way := range ways {
		v, _ := under(way, name)
		if v.Kind != impl.IsNode {
			t.Fatalf("%+v is no node", v)
		}
		ids = append(ids, v.Num)
	}
	return ids
}

// Promise 31: a node alone is found wherever it fits.
func TestPromise31NodeAlone(t *testing.T) {
	for _, g := range append(matchGraphs(60), someGraphs(t)...) {
		for _, label := range []string{"", "P", "Q", "A", "none"} {
			ways, code := impl.Matches(g, nil, nil, []impl.Path{path(spot("a", label))})
			if got := idsUnder(t, ways, code, "a"); !slices.Equal(got, impl.NodesWith(g, label)) {
				t.Errorf("%s in %s: %v", label, show(g), got)
			}
		}
	}
}

// Promise 32: an edge alone is found once by its way, and from both ends without.
func TestPromise32EdgeAlone(t *testing.T) {
	for _, g := range append(matchGraphs(60), someGraphs(t)...) {
		for _, kind := range []string{"", "K", "L", "none"} {
			once, loops := 0, 0
			for _, e := range g.Edges {
				if kind == "" || e.Kind == kind {
					once++
					if e.From == e.To {
						loops++
					}
				}
			}
			for _, name := range []string{"", "e"} {
				wantWays(t, "out", g, nil, once, path(spot("", ""), hop(name, kind, 1, spot("", ""))))
				wantWays(t, "in", g, nil, once, path(spot("a", ""), hop(name, kind, -1, spot("b", ""))))
				wantWays(t, "either", g, nil, 2*once-loops, path(spot("a", ""), hop(name, kind, 0, spot("", ""))))
			}
		}
	}
}

func TestPromise32EdgeHasItsEnds(t *testing.T) {
	for _, g := range matchGraphs(60) {
		for _, way := range []int{1, -1, 0} {
			ways, _ := impl.Matches(g, nil, nil, []impl.Path{path(spot("a", ""), hop("e", "", way, spot("b", "")))})
			for _, w := range ways {
				at := slices.Index(edgeIds(g), w[1].Value.Num)
				out := same(w[0].Value, nodeRef(g.Edges[at].From)) && same(w[2].Value, nodeRef(g.Edges[at].To))
				back := same(w[0].Value, nodeRef(g.Edges[at].To)) && same(w[2].Value, nodeRef(g.Edges[at].From))
				if way == 1 && !out || way == -1 && !back || !out && !back || w[1].Value.Kind != impl.IsEdge {
					t.Fatalf("%d: %+v in %s", way, w, show(g))
				}
			}
		}
	}
}

// Promise 33: a path is found from its other end as often.
func TestPromise33FromTheOtherEnd(t *testing.T) {
	spots := []impl.Spot{spot("", ""), spot("", "P"), spot("", "Q", pat("m", one))}
	hops := []impl.Hop{hop("", "", 0, impl.Spot{}), hop("", "K", 1, impl.Spot{}), hop("", "", -1, impl.Spot{}), hop("", "L", 0, impl.Spot{})}
	found := 0
	for _, g := range matchGraphs(25) {
		for _, first := range spots {
			for _, middle := range spots {
				for i, h := range hops {
					for _, k := range hops[:i+1] {
						there := path(first, hop("e", h.Kind, h.Way, middle), hop("f", k.Kind, k.Way, spots[1]))
						back := path(spots[1], hop("f", k.Kind, -k.Way, middle), hop("e", h.Kind, -h.Way, first))
						one, oneCode := impl.Matches(g, nil, nil, []impl.Path{there})
						two, twoCode := impl.Matches(g, nil, nil, []impl.Path{back})
						if len(one) != len(two) || oneCode != twoCode {
							t.Fatalf("%+v in %s: %d and %d ways, codes %d and %d", there, show(g), len(one), len(two), oneCode, twoCode)
						}
						found += len(one)
					}
				}
			}
		}
	}
	if found < 1000 {
		t.Errorf("found %d", found)
	}
}

// Promise 85: a node with a prop in a pattern is one that is found by it.
func TestPromise85NodeWithAProp(t *testing.T) {
	found := 0
	for _, g := range append(matchGraphs(40), someGraphs(t)[:30]...) {
		for _, label := range []string{"P", "Q", "A", "B", "none"} {
			for _, name := range []string{"n", "a", "b", "name", "none"} {
				for _, v := range slices.Concat(plainValues(), []impl.Value{num(2), text("x"), text("1"), list(num(1), text("x")), list(text("x"), list(list()))}) {
					ways, code := impl.Matches(g, nil, nil, []impl.Path{path(spot("a", label, pat(name, value(v))))})
					got, want := idsUnder(t, ways, code, "a"), impl.FindBy(g, label, name, v)
					if !slices.Equal(got, want) {
						t.Fatalf("%s %s %s: %v, not %v", label, name, impl.ValuePut(v), got, want)
					}
					found += len(got)
				}
			}
		}
	}
	if found < 300 {
		t.Errorf("found %d", found)
	}
}

func TestPromise85NodeWithMoreProps(t *testing.T) {
	g := impl.Graph{NextNode: 4, Nodes: []impl.Node{
		{Id: 0, Props: []impl.Prop{prop("m", num(1)), prop("n", num(2))}}, {Id: 1, Props: []impl.Prop{prop("n", num(2))}}, {Id: 2, Props: []impl.Prop{prop("m", num(1))}}, {Id: 3, Props: []impl.Prop{prop("l", list(num(1))), prop("m", text("1")), prop("n", num(2))}},
	}}
	for s, want := range map[string]int{"(a)": 4, "(a {n: 2})": 3, "(a {n: 2, m: 1})": 1, "(a {m: 1, n: 2})": 1, "(a {m: 1, n: 3})": 0, "(a {n: null})": 0, "(a {n: a2.n})": 0, "(a {l: [1]})": 1, "(a {l: [null]})": 0, "(a {m: '1'})": 1, "(a {n: (1 + 1), m: '1', l: [1]})": 1} {
		q := question(t, "UNWIND [null] AS a2 MATCH "+s+" RETURN a AS a")
		wantWays(t, s, g, []impl.Cell{cell("a2", null())}, want, q[1].Paths...)
	}
}

// Promise 86: a pattern with a label finds no more than one without.
func TestPromise86LabelFindsNoMore(t *testing.T) {
	fewer := 0
	for _, g := range matchGraphs(60) {
		for _, paths := range shapes() {
			for _, label := range []string{"P", "Q", "none"} {
				labelled := slices.Clone(paths)
				labelled[0].Spot.Label = label
				without := slices.Clone(paths)
				without[0].Spot.Label = ""
				some, _ := impl.Matches(g, nil, nil, labelled)
				all, code := impl.Matches(g, nil, nil, without)
				if code != 0 {
					continue
				}
				var want [][]impl.Cell
				for _, way := range all {
					v, _ := under(way, paths[0].Spot.Name)
					if slices.Contains(impl.NodesWith(g, label), v.Num) {
						want = append(want, way)
					}
				}
				if !same(some, want) {
					t.Fatalf("%+v with %s in %s: %+v, not %+v", paths, label, show(g), some, want)
				}
				if len(some) < len(all) {
					fewer++
				}
			}
		}
	}
	if fewer < 500 {
		t.Errorf("fewer %d times", fewer)
	}
}
