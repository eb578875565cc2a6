package tests

import (
	"fmt"
	"slices"
	"strings"
	"testing"

	"loop.example/ashlar/impl"
)

// town is four nodes, five edges, one of them from a node to itself, and one node without edges.
func town() impl.Graph {
	return impl.Graph{
		Nodes: []impl.Node{
			{Id: 0, Labels: []string{"P"}, Props: []impl.Prop{prop("n", num(1)), prop("name", text("ann"))}},
			{Id: 1, Labels: []string{"P"}, Props: []impl.Prop{prop("n", num(2)), prop("name", text("bob"))}},
			{Id: 2, Labels: []string{"Q"}, Props: []impl.Prop{prop("l", list(num(1), num(2))), prop("name", text("cat"))}},
			{Id: 5, Labels: []string{"P", "Q"}},
		},
		Edges: []impl.Edge{
			{Id: 0, Kind: "K", From: 0, To: 1, Props: []impl.Prop{prop("w", num(7))}}, {Id: 1, Kind: "K", From: 1, To: 2}, {Id: 2, Kind: "L", From: 0, To: 2}, {Id: 3, Kind: "L", From: 2, To: 2}, {Id: 6, Kind: "K", From: 1, To: 0},
		},
		NextNode: 7, NextEdge: 8,
	}
}

func townRules() []impl.Rule {
	return []impl.Rule{{Label: "P", Name: "name"}, {Label: "P", Name: "n"}}
}

func townGiven() []impl.Cell {
	return []impl.Cell{cell("p", num(2)), cell("node", nodeRef(1)), cell("edge", edgeRef(0)), cell("gone", nodeRef(3)), cell("all", list(nodeRef(0), edgeRef(3), null(), nodeRef(3), edgeRef(4))), cell("deep", list(list(list())))}
}

type runCase struct {
	text string
	want string
	code int
}

// checkRun runs questions of the town, and asks for the table, rows one behind the other with blanks between.
func checkRun(t *testing.T, cases []runCase) {
	t.Helper()
	for _, c := range cases {
		g, table, code := impl.Run(town(), townRules(), question(t, c.text), townGiven())
		var got []string
		for _, row := range table.Rows {
			var parts []string
			for _, v := range row {
				parts = append(parts, impl.ValuePut(v))
			}
			got = append(got, strings.Join(parts, ","))
		}
		if s := strings.Join(got, " "); s != c.want || code != c.code {
			t.Errorf("%s: %q %d, not %q %d", c.text, s, code, c.want, c.code)
		}
		if code != 0 && (!same(g, town()) || !same(table, impl.Table{})) {
			t.Errorf("%s: something is left behind", c.text)
		}
	}
}

// checkChange runs questions of the town, and asks for what another one tells behind them.
func checkChange(t *testing.T, cases [][3]string) {
	t.Helper()
	for _, c := range cases {
		g, _, code := impl.Run(town(), townRules(), question(t, c[0]), townGiven())
		if code != 0 || !impl.GraphOk(g) {
			t.Errorf("%s: code %d", c[0], code)
			continue
		}
		_, table, code := impl.Run(g, nil, question(t, c[1]), nil)
		if s := strings.Join(strings.Split(impl.TablePut(table), "\n")[1:], ";"); s != c[2] || code != 0 {
			t.Errorf("%s, then %s: %q %d, not %q", c[0], c[1], s, code, c[2])
		}
	}
}

func TestRunMatch(t *testing.T) {
	checkRun(t, []runCase{
		{"MATCH (a) RETURN a AS a", "#0 #1 #2 #5", 0},
		{"MATCH (a:P) RETURN a AS a", "#0 #1 #5", 0},
		{"MATCH (a:P)-[e]->(b) RETURN a AS a, e AS e, b AS b", "#0,@0,#1 #0,@2,#2 #1,@1,#2 #1,@6,#0", 0},
		{"MATCH (a)-[e:K]-(b) RETURN e AS e, b AS b", "@0,#1 @6,#1 @0,#0 @1,#2 @6,#0 @1,#1", 0},
		{"MATCH (a) MATCH (a)<-[e]-(b) RETURN a AS a, b AS b", "#0,#1 #1,#0 #2,#1 #2,#0 #2,#2", 0},
		{"MATCH (a)-[e]->(b) MATCH (b)-[f]->(c) WHERE (e = f) RETURN a AS a, c AS c", "#2,#2", 0},
		{"MATCH (a)-[e]->(b), (b)-[f]->(c) WHERE (e = f) RETURN a AS a, c AS c", "", 0},
		{"MATCH (a)-[]->(a) RETURN a AS a", "#2", 0},
		{"MATCH (a {name: 'ann'}), (b {n: (a.n + 1)}) RETURN b.name AS n", "'bob'", 0},
		{"MATCH (a {n: $p}) RETURN a AS a", "#1", 0},
		{"MATCH (a {n: null}) RETURN a AS a", "", 0},
		{"MATCH (a {l: [1, 2]}) RETURN a AS a", "#2", 0},
		{"MATCH (a)-[e]->(b {n: (e.w + -5)}) RETURN e AS e", "@0", 0},
		{"MATCH (a {n: $none}) RETURN a AS a", "", impl.ErrName},
		{"MATCH (a {n: ('x' + 1)}) RETURN a AS a", "", impl.ErrType},
		{"MATCH (a:none {n: ('x' + 1)}) RETURN a AS a", "", 0},
		{"MATCH (a), (b) MATCH (c) RETURN a AS a", "", impl.ErrMany},
		{"MATCH (a), (b) MATCH (c:P) RETURN count(*) AS c", "48", 0},
		{"UNWIND [null, 1] AS a MATCH (a) RETURN a AS a", "", 0},
		{"UNWIND $all AS a MATCH (a) RETURN a AS a", "#0", 0},
		{"UNWIND $all AS a MATCH (a)-[]-(b) RETURN b AS b", "#1 #2 #1", 0},
	})
}

func TestRunOptional(t *testing.T) {
	checkRun(t, []runCase{
		{"OPTIONAL MATCH (a:none)-[e]->(b) RETURN a AS a, e AS e, b AS b", "null,null,null", 0},
		{"MATCH (a) OPTIONAL MATCH (a)-[e:L]->(b) RETURN a AS a, e AS e, b AS b", "#0,@2,#2 #1,null,null #2,@3,#2 #5,null,null", 0},
		{"MATCH (a:Q) OPTIONAL MATCH (a)-[e]->(b), (c:none) RETURN a AS a, e AS e, b AS b, c AS c", "#2,null,null,null #5,null,null,null", 0},
		{"OPTIONAL MATCH (a:none) OPTIONAL MATCH (a)-[e]-(b) RETURN a AS a, e AS e, b.n AS n", "null,null,null", 0},
		{"OPTIONAL MATCH (a:none) MATCH (a) RETURN a AS a", "", 0},
		{"MATCH (a:none) OPTIONAL MATCH (b) RETURN b AS b", "", 0},
		{"OPTIONAL MATCH (a {n: $none}) RETURN a AS a", "", impl.ErrName},
		{"MATCH (a), (b) OPTIONAL MATCH (c:P) RETURN count(*) AS c", "48", 0},
		{"MATCH (a), (b) OPTIONAL MATCH (c) RETURN a AS a", "", impl.ErrMany},
		{"OPTIONAL MATCH (:none) RETURN 1 AS x", "1", 0},
	})
}

func TestRunWhere(t *testing.T) {
	checkRun(t, []runCase{
		{"MATCH (a) WHERE (a.n < 2) RETURN a AS a", "#0", 0},
		{"MATCH (a) WHERE (NOT (a.n < 2)) RETURN a AS a", "#1", 0},
		{"MATCH (a) WHERE (a.n IS NULL) RETURN a AS a", "#2 #5", 0},
		{"MATCH (a) WHERE null RETURN a AS a", "", 0}, {"MATCH (a) WHERE false RETURN a AS a", "", 0}, {"WHERE true RETURN 1 AS x", "1", 0},
		{"WHERE 1 RETURN 1 AS x", "", impl.ErrType}, {"WHERE 'true' RETURN 1 AS x", "", impl.ErrType}, {"WHERE [true] RETURN 1 AS x", "", impl.ErrType}, {"MATCH (a) WHERE a RETURN 1 AS x", "", impl.ErrType}, {"MATCH (a) WHERE a.name RETURN 1 AS x", "", impl.ErrType},
		{"MATCH (a:none) WHERE 1 RETURN a AS a", "", 0},
		{"WHERE $none RETURN 1 AS x", "", impl.ErrName}, {"WHERE (1000000000 + 1) RETURN 1 AS x", "", impl.ErrNum},
	})
}

func TestRunUnwind(t *testing.T) {
	checkRun(t, []runCase{
		{"UNWIND [3, 'x', null, [1], 3] AS x RETURN x AS x", "3 'x' null [1] 3", 0},
		{"UNWIND [] AS x RETURN x AS x", "", 0}, {"UNWIND null AS x RETURN x AS x", "", 0},
		{"UNWIND [1, 2] AS x UNWIND ['a', 'b'] AS y RETURN x AS x, y AS y", "1,'a' 1,'b' 2,'a' 2,'b'", 0},
		{"MATCH (a) UNWIND a.l AS x RETURN a AS a, x AS x", "#2,1 #2,2", 0},
		{"UNWIND [[1, 2], null, [], [3]] AS x UNWIND x AS y RETURN y AS y", "1 2 3", 0},
		{"UNWIND $all AS a RETURN a AS a, a.n AS n", "#0,1 @3,null null,null #3,null @4,null", 0},
		{"UNWIND 1 AS x RETURN x AS x", "", impl.ErrType}, {"UNWIND 'x' AS x RETURN x AS x", "", impl.ErrType}, {"UNWIND true AS x RETURN x AS x", "", impl.ErrType}, {"MATCH (a) UNWIND a AS x RETURN x AS x", "", impl.ErrType},
		{"UNWIND [[1], 2] AS x UNWIND x AS y RETURN y AS y", "", impl.ErrType},
		{"UNWIND $none AS x RETURN x AS x", "", impl.ErrName},
	})
	six := "UNWIND [1, 2, 3, 4, 5, 6] AS x UNWIND [1, 2] AS y UNWIND [1, 2, 3, 4, 5] AS z "
	_, table, code := impl.Run(impl.Graph{}, nil, question(t, six+"RETURN x AS x, y AS y, z AS z"), nil)
	if len(table.Rows) != impl.RowMax || code != 0 {
		t.Errorf("%d rows, code %d", len(table.Rows), code)
	}
	checkRun(t, []runCase{
		{"UNWIND [[1, 2, 3, 4, 5], [1, 2, 3, 4, 5]] AS x UNWIND [1, 2, 3, 4, 5, 6] AS y UNWIND x AS z RETURN count(*) AS c", "60", 0},
		{"UNWIND [[1, 2, 3, 4, 5, 6], [1, 2, 3, 4], [1, 2, 3, 4, 5]] AS x UNWIND [1, 2, 3, 4] AS y UNWIND x AS z RETURN count(*) AS c", "60", 0},
		{six + "UNWIND [1] AS w RETURN count(*) AS c", "60", 0},
		{six + "UNWIND [1, 2] AS w RETURN count(*) AS c", "", impl.ErrMany},
		{"UNWIND [[1], [1, 2, 3, 4, 5, 6]] AS l UNWIND l AS x UNWIND l AS y UNWIND [1] AS z RETURN count(*) AS c", "37", 0},
		{"UNWIND [[1, 2, 3, 4, 5, 6], [1, 2, 3, 4, 5]] AS l UNWIND l AS x UNWIND l AS y RETURN count(*) AS c", "", impl.ErrMany},
		{"UNWIND [[1, 2, 3, 4, 5, 6], [1, 2, 3, 4], [1, 2], [1, 2]] AS l UNWIND l AS x UNWIND l AS y RETURN count(*) AS c", "60", 0},
	})
}

func TestRunColumns(t *testing.T) {
	checkRun(t, []runCase{
		{"MATCH (a) RETURN a.name AS n, a AS a", "'ann',#0 'bob',#1 'cat',#2 null,#5", 0},
		{"MATCH (a)-[e]->(b) RETURN a AS a, count(*) AS c", "#0,2 #1,2 #2,1", 0},
		{"MATCH (a)-[e]->(b) RETURN count(*) AS c, b AS b, sum(a.n) AS s", "1,#1,1 3,#2,3 1,#0,2", 0},
		{"MATCH (a) RETURN a.n AS n, count(*) AS c", "1,1 2,1 null,2", 0},
		{"MATCH (a) RETURN sum(a.n) AS s, count(*) AS c, sum(1) AS o", "3,4,4", 0},
		{"UNWIND [1, '1', [1], true, null] AS x UNWIND [1, 2] AS y RETURN x AS x, sum(y) AS s", "1,3 '1',3 [1],3 true,3 null,3", 0},
		{"UNWIND [2, 1, 2, 3, 1] AS x WITH x AS y, count(*) AS c RETURN y AS y, c AS c", "2,2 1,2 3,1", 0},
		{"MATCH (a:none) RETURN count(*) AS c, sum(a.n) AS s", "0,0", 0},
		{"MATCH (a:none) RETURN sum($none) AS s", "0", 0},
		{"MATCH (a:none) RETURN a AS a, count(*) AS c", "", 0},
		{"MATCH (a:none) RETURN 1 AS a", "", 0},
		{"MATCH (a:none) WITH count(*) AS c RETURN c AS c", "0", 0},
		{"MATCH (a:none) WITH count(*) AS c CREATE (b) RETURN b AS b", "#7", 0},
		{"MATCH (a:none) RETURN count(*) AS c SKIP 1", "", 0},
		{"UNWIND [null, null] AS x RETURN sum(x) AS s, count(*) AS c", "0,2", 0},
		{"UNWIND [5, null, -7] AS x RETURN sum(x) AS s", "-2", 0},
		{"UNWIND [1000000000, -1000000000, 1000000000] AS x RETURN sum(x) AS s", "1000000000", 0},
		{"UNWIND [-1000000000, 0] AS x RETURN sum(x) AS s", "-1000000000", 0},
		{"UNWIND [1000000000, 1] AS x RETURN sum(x) AS s", "", impl.ErrNum},
		{"UNWIND [-1000000000, -1] AS x RETURN sum(x) AS s", "", impl.ErrNum},
		{"UNWIND [1, 'x'] AS x RETURN sum(x) AS s", "", impl.ErrType}, {"UNWIND [true] AS x RETURN sum(x) AS s", "", impl.ErrType}, {"UNWIND [[1]] AS x RETURN sum(x) AS s", "", impl.ErrType}, {"MATCH (a) RETURN sum(a) AS s", "", impl.ErrType},
		{"UNWIND [1, 1] AS x RETURN DISTINCT x AS x", "1", 0},
		{"UNWIND [3, 1, 2] AS x WITH x AS x ORDER BY x DESC LIMIT 2 RETURN (x + 1) AS y", "4 3", 0},
		{"UNWIND [3, 1, 2, 1] AS x WITH DISTINCT x AS x ORDER BY x SKIP 1 LIMIT 1 RETURN x AS x", "2", 0},
		{"UNWIND [1, 2, 3] AS x WITH x AS x SKIP 2 WITH count(*) AS c RETURN c AS c", "1", 0},
		{"MATCH (a)-[e]->(b) RETURN b AS b, count(*) AS c ORDER BY c DESC, b DESC", "#2,3 #1,1 #0,1", 0},
		{"MATCH (a) RETURN a.name AS n ORDER BY n DESC", "null 'cat' 'bob' 'ann'", 0},
		{"UNWIND [1, 2, 3, 4] AS x WITH x AS x, (x < 3) AS k RETURN x AS x, k AS k ORDER BY k", "3,false 4,false 1,true 2,true", 0},
		{"MATCH (a {name: 'ann'}) WITH a AS b, a.n AS a RETURN b.name AS x, a AS a", "'ann',1", 0},
		{"RETURN $none AS x", "", impl.ErrName}, {"RETURN (1 + 'x') AS x", "", impl.ErrType},
	})
	_, table, code := impl.Run(town(), nil, question(t, "MATCH (a:none) RETURN a AS z, 1 AS y"), nil)
	if code != 0 || !same(table, tableOf("z y")) {
		t.Errorf("names without rows: %+v", table)
	}
}

func TestRunCreate(t *testing.T) {
	checkRun(t, []runCase{
		{"CREATE (a:P {n: 3})-[e:K]->(b)<-[f:L]-(c) RETURN a AS a, b AS b, c AS c, e AS e, f AS f", "#7,#8,#9,@8,@9", 0},
		{"CREATE (a {n: 1}), (b {n: (a.n + 1), m: a.n}) RETURN b.n AS n, b.m AS m", "2,1", 0},
		{"CREATE (a {z: 1, n: null, b: 2}) RETURN a.z AS z, a.n AS n, a.b AS b", "1,null,2", 0},
		{"CREATE (a)-[e:K]->(a) WITH a AS a MATCH (a)-[f]->(b) RETURN f AS f, b AS b", "@8,#7", 0},
		{"MATCH (a:Q) CREATE (a)-[e:M]->(b {n: a.l}) RETURN a AS a, e AS e, b.n AS n", "#2,@8,[1, 2] #5,@9,null", 0},
		{"MATCH (a) CREATE (b) WITH count(*) AS c MATCH (d) RETURN c AS c, count(*) AS n", "4,8", 0},
		{"UNWIND [1, 2] AS x CREATE (a:N {n: x}) WITH a AS a MATCH (b:N) RETURN a AS a, b AS b", "#7,#7 #7,#8 #8,#7 #8,#8", 0},
		{"MATCH (a:none) CREATE (b) RETURN b AS b", "", 0},
		{"CREATE (), ({n: 1})-[:K]->() WITH count(*) AS c MATCH (a) RETURN c AS c, count(*) AS n", "1,7", 0},
		{"OPTIONAL MATCH (a:none) CREATE (a)-[:K]->(b)", "", impl.ErrType},
		{"UNWIND [1] AS a CREATE (a)", "", impl.ErrType}, {"MATCH ()-[e]->() CREATE (e)", "", impl.ErrType}, {"UNWIND $all AS a CREATE (a)", "", impl.ErrType},
		{"MATCH (a) DETACH DELETE a CREATE (b)-[:K]->(a)", "", impl.ErrType},
		{"CREATE (a {n: [null]})", "", impl.ErrType}, {"MATCH (b) CREATE (a {n: b})", "", impl.ErrType}, {"CREATE (a {n: $all})", "", impl.ErrType}, {"MATCH ()-[e]->() CREATE (a {n: e})", "", impl.ErrType},
		{"CREATE (a {n: $deep}) RETURN a.n AS n", "[[[]]]", 0},
		{"CREATE (a {n: $none})", "", impl.ErrName}, {"CREATE (a {n: [null], m: $none})", "", impl.ErrType}, {"CREATE (a {m: $none, n: [null]})", "", impl.ErrName},
		{"CREATE (a)-[e:K]->(b {n: e.n})", "", impl.ErrName},
		{"CREATE (a)-[e:K]->(e) RETURN e AS e", "#8", 0},
		{"CREATE (a)-[e:K]->(b), (e)", "", impl.ErrType},
	})
	checkChange(t, [][3]string{
		{"MATCH (a {name: 'bob'}), (b {name: 'cat'}) CREATE (a)<-[:M]-(b)", "MATCH (a)-[e:M]->(b) RETURN a AS a, e AS e, b AS b", "#2 | @8 | #1;"},
		{"CREATE (:R)-[:M]->(:S)-[:M]->(:T)", "MATCH (a)-[e:M]->(b)-[f:M]->(c) RETURN a AS a, b AS b, c AS c", "#7 | #8 | #9;"},
		{"CREATE (:R {b: 1, a: 2, d: 3, c: 4})", "MATCH (a:R) RETURN a.a AS a, a.b AS b, a.c AS c, a.d AS d", "2 | 1 | 4 | 3;"},
	})
}

// A graph is filled up to its limits, and one more is refused.
func TestRunCreateMeetsLimits(t *testing.T) {
	for n, want := range map[int]int{impl.NodeMax - 1: 0, impl.NodeMax: impl.ErrFull} {
		g, _, code := impl.Run(edgesGraph(n), nil, question(t, "CREATE (a)"), nil)
		if code != want || len(g.Nodes) != impl.NodeMax {
			t.Errorf("%d nodes: %d", n, code)
		}
	}
	for n, want := range map[int]int{impl.EdgeMax - 1: 0, impl.EdgeMax: impl.ErrFull} {
		g, _, code := impl.Run(edgesGraph(2, slices.Repeat([][2]int{{0, 1}}, n)...), nil, question(t, "MATCH (a), (b) WHERE (NOT (a = b)) WITH a AS a, b AS b LIMIT 1 CREATE (a)-[:K]->(b)"), nil)
		if code != want || len(g.Edges) != impl.EdgeMax {
			t.Errorf("%d edges: %d", n, code)
		}
	}
	for next, want := range map[int]int{impl.NumMax - 1: 0, impl.NumMax: impl.ErrFull} {
		g, _, code := impl.Run(impl.Graph{NextNode: next}, nil, question(t, "CREATE (a)"), nil)
		if code != want || g.NextNode != impl.NumMax {
			t.Errorf("node %d: %d", next, code)
		}
		one := edgesGraph(1)
		one.NextEdge = next
		g, _, code = impl.Run(one, nil, question(t, "MATCH (a) CREATE (a)-[:K]->(a)"), nil)
		if code != want || g.NextEdge != impl.NumMax {
			t.Errorf("edge %d: %d", next, code)
		}
	}
	// What was made ahead of what is refused is not left behind.
	g, _, code := impl.Run(edgesGraph(impl.NodeMax-1), nil, question(t, "UNWIND [1, 2] AS x CREATE (a {n: x})"), nil)
	if code != impl.ErrFull || !same(g, edgesGraph(impl.NodeMax-1)) {
		t.Errorf("%d %s", code, show(g))
	}
}

func TestRunSet(t *testing.T) {
	checkRun(t, []runCase{
		{"MATCH (a {name: 'ann'}) SET a.n = 9 RETURN a.n AS n", "9", 0},
		{"MATCH (a:P) SET a.n = (a.n + 10), a.m = a.n RETURN a.n AS n, a.m AS m", "11,11 12,12 null,null", 0},
		{"MATCH (a)-[e]->(b) SET e.w = a.n RETURN e.w AS w", "1 1 2 2 null", 0},
		{"MATCH (a) SET a.n = null RETURN a.n AS n", "null null null null", 0},
		{"MATCH (a), (b {name: 'ann'}) SET b.k = (b.n + 1), b.n = b.k RETURN b.n AS n", "5 5 5 5", 0},
		{"OPTIONAL MATCH (a:none) SET a.n = 1 RETURN a AS a", "null", 0},
		{"OPTIONAL MATCH (a:none) SET a.n = [null] RETURN a AS a", "null", 0},
		{"OPTIONAL MATCH (a:none) SET a.n = $none RETURN a AS a", "", impl.ErrName},
		{"UNWIND $all AS a SET a.k = 1 RETURN a AS a, a.k AS k", "#0,1 @3,1 null,null #3,null @4,null", 0},
		{"UNWIND [1] AS a SET a.n = 1", "", impl.ErrType}, {"UNWIND [[1]] AS a SET a.n = 1", "", impl.ErrType}, {"UNWIND [true] AS a SET a.n = 1", "", impl.ErrType}, {"UNWIND ['x'] AS a SET a.n = null", "", impl.ErrType},
		{"MATCH (a) SET a.n = [null]", "", impl.ErrType}, {"MATCH (a) SET a.n = a", "", impl.ErrType}, {"MATCH (a) SET a.n = $edge", "", impl.ErrType}, {"MATCH (a) SET a.n = $all", "", impl.ErrType},
		{"UNWIND $all AS x WITH x AS x SKIP 3 LIMIT 1 SET x.n = [null]", "", impl.ErrType},
		{"UNWIND $all AS x WITH x AS x SKIP 3 LIMIT 1 SET x.n = 1 RETURN x AS x", "#3", 0},
		{"UNWIND [1] AS a SET a.n = $none", "", impl.ErrName}, {"MATCH (a) SET a.n = (1000000000 + 1)", "", impl.ErrNum}, {"MATCH (a:none) SET a.n = $none RETURN a AS a", "", 0},
		{"MATCH (a {name: 'ann'}) SET a.a = 1, a.b = 2 RETURN a.a AS a", "1", 0},
		{"MATCH (a {name: 'ann'}) SET a.a = 1, a.b = 2, a.c = 3", "", impl.ErrFull},
		{"MATCH (a {name: 'ann'}) SET a.a = 1, a.b = 2, a.name = null, a.c = 3 RETURN a.c AS c", "3", 0},
		{"MATCH (a {name: 'ann'}) SET a.a = 1, a.b = 2, a.b = 3 RETURN a.b AS b", "3", 0},
		{"MATCH (a) DETACH DELETE a SET a.n = 1 RETURN a AS a, a.n AS n", "#0,null #1,null #2,null #5,null", 0},
		{"MATCH (a)-[e]->(b) DELETE e SET e.n = 1 RETURN count(*) AS c", "5", 0},
	})
	checkChange(t, [][3]string{
		{"MATCH (a:P) SET a.n = (a.n + 10)", "MATCH (a) RETURN a.n AS n", "11;12;null;null;"},
		{"MATCH (a:Q) SET a.name = 'x'", "MATCH (a {name: 'x'}) RETURN a AS a", "#2;#5;"},
		{"MATCH ()-[e]->() SET e.w = null", "MATCH ()-[e]->() WHERE (e.w IS NULL) RETURN count(*) AS c", "5;"},
	})
}

func TestRunDelete(t *testing.T) {
	checkRun(t, []runCase{
		{"MATCH (a {name: 'ann'}) DETACH DELETE a RETURN a AS a, a.n AS n", "#0,null", 0},
		{"MATCH (a) DETACH DELETE a WITH count(*) AS c OPTIONAL MATCH (b) RETURN c AS c, b AS b", "4,null", 0},
		{"MATCH (a)-[e]->(b) DELETE e WITH count(*) AS c OPTIONAL MATCH (a)-[e]-(b) RETURN c AS c, e AS e", "5,null", 0},
		{"MATCH (a)-[e]->(b) DELETE e, e RETURN count(*) AS c", "5", 0},
		{"MATCH (a)-[e]->(b) DETACH DELETE a, b, e RETURN count(*) AS c", "5", 0},
		{"MATCH (a) WHERE (a.name IS NULL) DELETE a, a RETURN a AS a", "#5", 0},
		{"MATCH (a {name: 'ann'}) DELETE a", "", impl.ErrHeld},
		{"MATCH (a {name: 'cat'}) DELETE a", "", impl.ErrHeld},
		{"MATCH (a)-[e]->(b) DELETE a", "", impl.ErrHeld},
		{"MATCH (a {name: 'ann'})-[e]-(b) DELETE e, a", "", impl.ErrHeld},
		{"MATCH (a {name: 'ann'})-[e]-(b) DELETE e WITH a AS a DELETE a RETURN a AS a", "#0 #0 #0", 0},
		{"OPTIONAL MATCH (a:none) DELETE a RETURN a AS a", "null", 0},
		{"UNWIND $all AS a DETACH DELETE a RETURN a AS a", "#0 @3 null #3 @4", 0},
		{"UNWIND $all AS a DELETE a RETURN a AS a", "", impl.ErrHeld},
		{"UNWIND [1] AS a DELETE a", "", impl.ErrType}, {"UNWIND [1] AS a DETACH DELETE a", "", impl.ErrType}, {"UNWIND [[]] AS a DELETE a", "", impl.ErrType}, {"UNWIND ['x', null] AS a DELETE a", "", impl.ErrType},
		{"MATCH (a) DETACH DELETE a MATCH (a) RETURN a AS a", "", 0},
		{"MATCH (a) DETACH DELETE a OPTIONAL MATCH (a)-[e]-(b) RETURN a AS a, e AS e", "#0,null #1,null #2,null #5,null", 0},
		{"MATCH (a {name: 'ann'})-[e]-(b) DETACH DELETE a RETURN e.w AS w, b.name AS n", "null,'bob' null,'cat' null,'bob'", 0},
	})
	checkChange(t, [][3]string{
		{"MATCH (a {name: 'ann'}) DETACH DELETE a", "MATCH (a)-[e]-(b) RETURN a AS a, e AS e, b AS b", "#1 | @1 | #2;#2 | @1 | #1;#2 | @3 | #2;"},
		{"MATCH ()-[e:K]->() DELETE e", "MATCH (a)-[e]->(b) RETURN e AS e", "@2;@3;"},
		{"MATCH (a) WHERE (a.name IS NULL) DELETE a CREATE (b)", "MATCH (a) RETURN a AS a", "#0;#1;#2;#7;"},
	})
}

// A question without RETURN has no table.
func TestRunWithoutReturn(t *testing.T) {
	for _, s := range []string{"CREATE (a)", "MATCH (a) SET a.k = 1", "MATCH (a) DETACH DELETE a", "MATCH (a) WITH a AS a CREATE (b)"} {
		if _, table, code := impl.Run(town(), nil, question(t, s), nil); code != 0 || !same(table, impl.Table{}) {
			t.Errorf("%s: %+v %d", s, table, code)
		}
	}
}

// Clauses are done one behind the other, each with all rows: the first code is that of the first clause, then of the first row.
func TestRunTellsTheFirstCode(t *testing.T) {
	checkRun(t, []runCase{
		{"UNWIND [1, 2, 3] AS x WHERE ((x + 0) < 3) WHERE $none RETURN x AS x", "", impl.ErrName},
		{"UNWIND ['x', 1] AS x WITH (x + 'y') AS y, $none AS z RETURN y AS y", "", impl.ErrName},
		{"UNWIND [1, 'x'] AS x WITH (x + 1) AS y WHERE $none RETURN y AS y", "", impl.ErrType},
		{"UNWIND [1, [1]] AS x UNWIND x AS y WHERE $none RETURN y AS y", "", impl.ErrType},
		{"UNWIND [[1], 1] AS x UNWIND x AS y RETURN $none AS z", "", impl.ErrType},
		{"MATCH (a), (b) MATCH (c) WHERE $none RETURN a AS a", "", impl.ErrMany},
		{"WHERE $none MATCH (a), (b) MATCH (c) RETURN a AS a", "", impl.ErrName},
		{"UNWIND [1, null, 2] AS x RETURN (1000000000 + x) AS y, (x + 'x') AS z", "", impl.ErrNum},
		{"UNWIND [0, 1] AS x RETURN (x + 'x') AS z, (1000000000 + x) AS y", "", impl.ErrType},
		{"UNWIND [0, 1] AS x RETURN sum((x + 'x')) AS s, (1000000000 + x) AS y", "", impl.ErrType},
		{"UNWIND [1, 0] AS x RETURN sum((x + 'x')) AS s, (1000000000 + x) AS y", "", impl.ErrNum},
		{"UNWIND [0, 1] AS x RETURN sum((1000000000 + x)) AS s, sum((x + 'x')) AS t", "", impl.ErrType},
		{"UNWIND [1, 0] AS x RETURN sum((1000000000 + x)) AS s, sum((x + 'x')) AS t", "", impl.ErrNum},
		{"UNWIND [0, 1] AS x RETURN sum((x + 'x')) AS t, sum((1000000000 + x)) AS s", "", impl.ErrType},
		{"UNWIND [1, 'x'] AS x RETURN x AS x, sum((x + 1000000000)) AS s, sum((x + 1)) AS t", "", impl.ErrNum},
		{"UNWIND ['x', 1] AS x RETURN x AS x, sum((x + 1000000000)) AS s, sum((x + 1)) AS t", "", impl.ErrType},
		{"CREATE (a {n: 1}) WITH a AS a WHERE $none RETURN a AS a", "", impl.ErrName},
		{"MATCH (a {name: 'ann'}) DELETE a WITH $none AS x RETURN x AS x", "", impl.ErrHeld},
		{"MATCH (a:P) SET a.n = 5 RETURN $none AS x", "", impl.ErrName},
		{"MATCH (a:P) SET a.n = 5, a.n = [null]", "", impl.ErrType},
	})
}

// Rules are asked of the graph as it is at the end.
func TestRunAsksRulesAtTheEnd(t *testing.T) {
	checkRun(t, []runCase{
		{"MATCH (a:P) SET a.n = 5", "", impl.ErrRule},
		{"MATCH (a:P) SET a.n = 5 RETURN a AS a", "", impl.ErrRule},
		{"MATCH (a:P) SET a.n = 5 WITH a AS a LIMIT 2 SET a.n = null RETURN a.n AS n", "null null", 0},
		{"MATCH (a {name: 'ann'}), (b {name: 'bob'}) SET a.n = 2, b.n = 1 RETURN a.n AS n", "2", 0},
		{"CREATE (a:P {n: 2}) DELETE a", "", 0},
		{"CREATE (a:P {n: 2})", "", impl.ErrRule}, {"CREATE (a:Q {n: 2})", "", 0}, {"CREATE (a:P {n: '2'})", "", 0}, {"CREATE (a:P), (b:P)", "", 0},
		{"MATCH (a {name: 'bob'}) DETACH DELETE a CREATE (b:P {n: 2, name: 'bob'}) RETURN b AS b", "#7", 0},
	})
}

func wantForm(t *testing.T, what string, g impl.Graph, rules []impl.Rule, q []impl.Clause, given []impl.Cell) {
	t.Helper()
	if got, table, code := impl.Run(g, rules, q, given); code != impl.ErrForm || !same(got, impl.Graph{}) || !same(table, impl.Table{}) {
		t.Errorf("%s: %s %+v %d", what, show(got), table, code)
	}
}

func TestRunOfWhatIsNotOk(t *testing.T) {
	q := []impl.Clause{end()}
	for what, g := range wrongGraphs() {
		wantForm(t, what, g, nil, q, nil)
	}
	for i, rules := range wrongRules() {
		wantForm(t, fmt.Sprint("rules ", i), town(), rules, q, nil)
	}
	wantForm(t, "a rule that is broken", nodesOf(num(1), num(1)), []impl.Rule{{Label: "P", Name: "n"}}, q, nil)
	for i, cells := range wrongCells() {
		wantForm(t, fmt.Sprint("given ", i), town(), nil, q, cells)
	}
	for i, wrong := range [][]impl.Clause{nil, {}, {{}}, {end(), end()}, {match(path(spot("a", "")))}, {where(variable("a")), end()}, {create(path(spot("", ""), hop("", "", 1, spot("", ""))))}, slices.Repeat([]impl.Clause{create(path(spot("", "")))}, impl.ClauseMax+1), {where(exprHoldsItself(impl.ExprNot, 1)), end()}, {unwind(one, "x"), unwind(one, "x"), end()}} {
		wantForm(t, fmt.Sprint("question ", i), town(), nil, wrong, nil)
	}
	if _, table, code := impl.Run(town(), nil, append(slices.Repeat([]impl.Clause{where(value(yes()))}, impl.ClauseMax-1), end()), townGiven()); code != 0 || len(table.Rows) != 1 {
		t.Errorf("as many clauses as may be: %+v %d", table, code)
	}
}
