package tests

import (
	"slices"
	"strings"
	"testing"

	"loop.example/ashlar/impl"
)

// maker makes questions that are fine: the names that are there so far.
type maker struct {
	d     *dice
	there []string
}

func (m *maker) coin() bool { return m.d.roll(2) == 0 }

func (m *maker) expr() impl.Expr {
	return makeExpr(m.d, m.there, false, 1+m.d.roll(3))
}

// newName is a name that is not there, or none.
func (m *maker) newName() string {
	s := []string{"a", "b", "c1", "longname", "x", "y", "Z"}[m.d.roll(7)]
	if m.coin() || slices.Contains(m.there, s) {
		return ""
	}
	return s
}

func (m *maker) put(name string) {
	if name != "" && !slices.Contains(m.there, name) {
		m.there = append(m.there, name)
	}
}

func (m *maker) label(must bool) string {
	if must || m.coin() {
		return []string{"P", "Q", "K2345678"}[m.d.roll(3)]
	}
	return ""
}

func (m *maker) spot() impl.Spot {
	s := impl.Spot{Name: m.newName()}
	if s.Name == "" && len(m.there) > 0 && m.d.roll(3) == 0 {
		return impl.Spot{Name: m.there[m.d.roll(len(m.there))]}
	}
	s.Label = m.label(false)
	for _, name := range names(m.d, []string{"n", "name", "m"}, m.d.roll(3)) {
		s.Props = append(s.Props, impl.Pat{Name: name, Expr: m.expr()})
	}
	m.put(s.Name)
	return s
}

func (m *maker) path(creates bool) impl.Path {
	p := impl.Path{Spot: m.spot()}
	for range m.d.roll(impl.HopMax + 1) {
		h := impl.Hop{Name: m.newName(), Kind: m.label(creates), Way: m.d.roll(3) - 1}
		if creates && h.Way == 0 {
			h.Way = 1
		}
		m.put(h.Name)
		h.Spot = m.spot()
		p.Hops = append(p.Hops, h)
	}
	return p
}

func (m *maker) paths(kind int) impl.Clause {
	c := bare(kind)
	for range 1 + m.d.roll(impl.PathMax) {
		c.Paths = append(c.Paths, m.path(kind == impl.ClauseCreate))
	}
	return c
}

func (m *maker) columns(kind int) impl.Clause {
	c := bare(kind)
	c.Distinct, c.Skip, c.Limit = m.coin(), m.d.roll(4)-1, m.d.roll(4)-1
	for _, name := range append(names(m.d, []string{"x", "b", "a", "w9"}, impl.ItemMax-1), "last") {
		e := m.expr()
		switch m.d.roll(4) {
		case 0:
			e = impl.Expr{Kind: impl.ExprCount}
		case 1:
			e = ofParts(impl.ExprSum, e)
		}
		c.Items = append(c.Items, impl.Item{Expr: e, Name: name})
	}
	for range m.d.roll(3) {
		c.Orders = append(c.Orders, impl.Order{Name: c.Items[m.d.roll(len(c.Items))].Name, Down: m.coin()})
	}
	m.there = nil
	for _, i := range c.Items {
		m.there = append(m.there, i.Name)
	}
	return c
}

func (m *maker) clause(kind int) impl.Clause {
	c := bare(kind)
	switch kind {
	case impl.ClauseMatch, impl.ClauseOptional, impl.ClauseCreate:
		return m.paths(kind)
	case impl.ClauseWith, impl.ClauseReturn:
		return m.columns(kind)
	case impl.ClauseWhere:
		c.Expr = m.expr()
	case impl.ClauseUnwind:
		c.Expr, c.Name = m.expr(), "u"+string(rune('0'+m.d.roll(10)))
		if slices.Contains(m.there, c.Name) {
			return where(c.Expr)
		}
		m.put(c.Name)
	case impl.ClauseSet:
		for range 1 + m.d.roll(2) {
			c.Tos = append(c.Tos, impl.To{Name: m.there[m.d.roll(len(m.there))], Key: "n", Expr: m.expr()})
		}
	case impl.ClauseDelete:
		c.Detach = m.coin()
		for range 1 + m.d.roll(impl.ItemMax) {
			c.Names = append(c.Names, m.there[m.d.roll(len(m.there))])
		}
	}
	return c
}

// question is up to most clauses, the last of which may end it.
func (m *maker) question(most int) []impl.Clause {
	var q []impl.Clause
	for range m.d.roll(most) {
		kind := []int{1, 1, 2, 3, 4, 5, 7, 8, 9}[m.d.roll(9)]
		if len(m.there) == 0 && (kind == impl.ClauseSet || kind == impl.ClauseDelete) {
			kind = impl.ClauseMatch
		}
		q = append(q, m.clause(kind))
	}
	kind := []int{impl.ClauseReturn, impl.ClauseReturn, impl.ClauseCreate, impl.ClauseSet, impl.ClauseDelete}[m.d.roll(5)]
	if len(m.there) == 0 {
		kind = impl.ClauseReturn
	}
	return append(q, m.clause(kind))
}

func someQuestions(t *testing.T, count int) [][]impl.Clause {
	t.Helper()
	d := dice(11)
	var all [][]impl.Clause
	for range count {
		m := maker{d: &d}
		q := m.question(impl.ClauseMax)
		if code := impl.QueryCheck(q); code != impl.QueryFine {
			t.Fatalf("%d: %+v", code, q)
		}
		all = append(all, q)
	}
	return all
}

// question is the question that a text tells.
func question(t *testing.T, s string) []impl.Clause {
	t.Helper()
	q, ok := impl.QueryGet(s)
	if !ok {
		t.Fatalf("%q is no question", s)
	}
	return q
}

// Promise 26: a question is read back from its text.
func TestPromise26QuestionIsReadBack(t *testing.T) {
	long := 0
	for _, q := range someQuestions(t, 3000) {
		s := impl.QueryPut(q)
		got, ok := impl.QueryGet(s)
		if len(s) > impl.QueryMax {
			long++
			if ok || len(got) != 0 {
				t.Fatalf("%d bytes are read", len(s))
			}
			continue
		}
		if !ok || !same(got, q) {
			t.Fatalf("%+v from %q is %+v %v", q, s, got, ok)
		}
		words, _ := impl.Words(s)
		if spread := strings.Join(words, "\n"); len(spread) <= impl.QueryMax {
			if again, ok := impl.QueryGet(spread); !ok || !same(again, q) {
				t.Fatalf("%q, a word a line", s)
			}
		}
	}
	if long > 1500 {
		t.Errorf("%d are too long to be read", long)
	}
}

func TestPromise26QuestionIsWrittenAsTold(t *testing.T) {
	n, p := impl.Expr{Kind: impl.ExprProp, Name: "a", Key: "n"}, impl.Expr{Kind: impl.ExprParam, Name: "p"}
	a := match(path(spot("a", "")))
	full := giveBack(item(n, "x"), item(impl.Expr{Kind: impl.ExprCount}, "y"))
	full.Distinct, full.Orders, full.Skip, full.Limit = true, []impl.Order{{Name: "x", Down: true}, {Name: "y"}}, 1, 1000
	zero := with(item(one, "x"))
	zero.Skip, zero.Limit = 0, 0
	ordered := giveBack(item(one, "x"))
	ordered.Orders = []impl.Order{{Name: "x"}}
	gone := remove("a", "a")
	gone.Detach = true
	for s, q := range map[string][]impl.Clause{
		"RETURN 1 AS end":                                {end()},
		"MATCH () RETURN 1 AS end":                       {match(path(spot("", ""))), end()},
		"MATCH (a) RETURN 1 AS end":                      {a, end()},
		"MATCH (:P) RETURN 1 AS end":                     {match(path(spot("", "P"))), end()},
		"MATCH (a:P) RETURN 1 AS end":                    {match(path(spot("a", "P"))), end()},
		"MATCH ({n: 1}) RETURN 1 AS end":                 {match(path(spot("", "", pat("n", one)))), end()},
		"MATCH (a {n: 1}) RETURN 1 AS end":               {match(path(spot("a", "", pat("n", one)))), end()},
		"MATCH (:P {n: 1}) RETURN 1 AS end":              {match(path(spot("", "P", pat("n", one)))), end()},
		"MATCH (a:P {n: 1, m: $p}) RETURN 1 AS end":      {match(path(spot("a", "P", pat("n", one), pat("m", p)))), end()},
		"OPTIONAL MATCH ()-[]->(), () RETURN 1 AS end":   {optional(path(spot("", ""), hop("", "", 1, spot("", ""))), path(spot("", ""))), end()},
		"MATCH (a)<-[e]-(b)-[:K]-(c) RETURN 1 AS end":    {match(path(spot("a", ""), hop("e", "", -1, spot("b", "")), hop("", "K", 0, spot("c", "")))), end()},
		"CREATE (a)-[e:K]->(b:P {n: $p})<-[:L]-(a), (a)": {create(path(spot("a", ""), hop("e", "K", 1, spot("b", "P", pat("n", p))), hop("", "L", -1, spot("a", ""))), path(spot("a", "")))},
		"MATCH (a) WHERE (a.n = $p) RETURN 1 AS end":     {a, where(ofParts(impl.ExprEqual, n, p)), end()},
		"UNWIND [1, 'x'] AS u RETURN u AS end":           {unwind(value(list(num(1), text("x"))), "u"), giveBack(item(variable("u"), "end"))},
		"MATCH (a) RETURN DISTINCT a.n AS x, count(*) AS y ORDER BY x DESC, y SKIP 1 LIMIT 1000": {a, full},
		"WITH 1 AS x SKIP 0 LIMIT 0 RETURN 1 AS end":                                             {zero, end()},
		"RETURN 1 AS x ORDER BY x":                                                               {ordered},
		"MATCH (a) RETURN sum(a.n) AS x":                                                         {a, giveBack(item(ofParts(impl.ExprSum, n), "x"))},
		"MATCH (a) SET a.n = 1, a.m = (a.n + 1)":                                                 {a, set(to("a", "n", one), to("a", "m", ofParts(impl.ExprAdd, n, one)))},
		"MATCH (a) DELETE a":                                                                     {a, remove("a")},
		"MATCH (a) DETACH DELETE a, a":                                                           {a, gone},
	} {
		got, ok := impl.QueryGet(s)
		if impl.QueryPut(q) != s || !ok || !same(got, q) {
			t.Errorf("%q: %q, %+v %v", s, impl.QueryPut(q), got, ok)
		}
	}
	for s, want := range map[string]string{
		"MATCH(a:P{n:1})-[ e : K ]- >(b)RETURN a.n AS x,b AS y": "MATCH (a:P {n: 1})-[e:K]->(b) RETURN a.n AS x, b AS y",
		" \n RETURN\t1 AS\nx ": "RETURN 1 AS x", "MATCH (a)< -[]-() SET a . n=1": "MATCH (a)<-[]-() SET a.n = 1",
	} {
		if got, ok := impl.QueryGet(s); !ok || impl.QueryPut(got) != want {
			t.Errorf("%q: %q %v", s, impl.QueryPut(got), ok)
		}
	}
}

func TestPromise26NothingElseIsRead(t *testing.T) {
	for _, s := range []string{
		"", " ", "RETURN", "return 1 AS x", "RETURN 1", "RETURN 1 AS", "RETURN 1 x", "RETURN AS x", "RETURN * AS x", "RETURN 1 AS x,", "RETURN , 1 AS x", "RETURN 1 AS x 2 AS y", "RETURN 1 AS AS", "RETURN 1 AS 1", "RETURN 1 AS x y", "RETURN (1) AS x", "1 AS x", "x", "(a)", "?", "RETURN ? AS x", "RETURN 'x AS x",
		"RETURN DISTINCT", "RETURN DISTINCT DISTINCT 1 AS x", "RETURN 1 AS x DISTINCT", "RETURN 1 AS x ORDER x", "RETURN 1 AS x ORDER BY", "RETURN 1 AS x BY x", "RETURN 1 AS x ORDER BY x,", "RETURN 1 AS x ORDER BY DESC", "RETURN 1 AS x ORDER BY x DESC DESC", "RETURN 1 AS x ORDER BY x ASC", "RETURN 1 AS x ORDER BY y", "RETURN 1 AS x ORDER BY x ORDER BY x", "RETURN 1 AS x ORDER BY x.n", "RETURN 1 AS x ORDER BY x, x, x, x, x, x",
		"RETURN 1 AS x SKIP", "RETURN 1 AS x SKIP -1", "RETURN 1 AS x SKIP 01", "RETURN 1 AS x SKIP a", "RETURN 1 AS x SKIP 1001", "RETURN 1 AS x LIMIT 1001", "RETURN 1 AS x LIMIT -1", "RETURN 1 AS x LIMIT 1 SKIP 1", "RETURN 1 AS x SKIP 1 SKIP 1", "RETURN 1 AS x LIMIT 1 ORDER BY x", "RETURN 1 AS x SKIP (1 + 1)", "RETURN 1 AS x SKIP 1a", "RETURN 1 AS x SKIP 99999999999999999999", "RETURN 1 AS x SKIP '1'", "RETURN 1 AS x LIMIT $p",
		"MATCH", "MATCH RETURN 1 AS x", "MATCH a RETURN 1 AS x", "MATCH (a RETURN 1 AS x", "MATCH a) RETURN 1 AS x", "MATCH (a b) RETURN 1 AS x", "MATCH (a:) RETURN 1 AS x", "MATCH (:) RETURN 1 AS x", "MATCH (a:P:Q) RETURN 1 AS x", "MATCH (1) RETURN 1 AS x", "MATCH (NOT) RETURN 1 AS x", "MATCH (a), RETURN 1 AS x", "MATCH (a) (b) RETURN 1 AS x", "MATCH (a), (b), (c) RETURN 1 AS x", "OPTIONAL (a) RETURN 1 AS x", "OPTIONAL OPTIONAL MATCH (a) RETURN 1 AS x", "MATCH MATCH (a) RETURN 1 AS x",
		"MATCH ({}) RETURN 1 AS x", "MATCH (a {n}) RETURN 1 AS x", "MATCH (a {n: }) RETURN 1 AS x", "MATCH (a {n = 1}) RETURN 1 AS x", "MATCH (a {n: 1,}) RETURN 1 AS x", "MATCH (a {n: 1 m: 1}) RETURN 1 AS x", "MATCH (a {n: 1, n: 2}) RETURN 1 AS x", "MATCH (a {n: 1) RETURN 1 AS x", "MATCH ({n: 1} a) RETURN 1 AS x", "MATCH (a {1: 1}) RETURN 1 AS x", "MATCH (a {a: 1, b: 1, c: 1, d: 1, e: 1}) RETURN 1 AS x",
		"MATCH ()-() RETURN 1 AS x", "MATCH ()--() RETURN 1 AS x", "MATCH ()->() RETURN 1 AS x", "MATCH ()-[]() RETURN 1 AS x", "MATCH ()[]->() RETURN 1 AS x", "MATCH ()<-[]->() RETURN 1 AS x", "MATCH ()<[]-() RETURN 1 AS x", "MATCH ()-[]- RETURN 1 AS x", "MATCH -[]-() RETURN 1 AS x", "MATCH ()-[e:]-() RETURN 1 AS x", "MATCH ()-[e:K {n: 1}]-() RETURN 1 AS x", "MATCH ()-[]>() RETURN 1 AS x", "MATCH ()-[]-()-[]-()-[]-() RETURN 1 AS x", "MATCH ()-[e f]-() RETURN 1 AS x", "MATCH ()-[]->>() RETURN 1 AS x", "MATCH ()<<-[]-() RETURN 1 AS x",
		"MATCH (a) WHERE RETURN 1 AS x", "WHERE 1 2 RETURN 1 AS x", "WHERE (1) RETURN 1 AS x", "WHERE 1, 2 RETURN 1 AS x", "UNWIND 1 RETURN 1 AS x", "UNWIND 1 AS RETURN 1 AS x", "UNWIND AS a RETURN 1 AS x", "UNWIND 1 AS a, 2 AS b RETURN 1 AS x", "WITH RETURN 1 AS x", "WITH 1 RETURN 1 AS x",
		"CREATE", "CREATE a", "CREATE ()-[]->()", "CREATE ()-[:K]-()", "MATCH (a) SET", "MATCH (a) SET a = 1", "MATCH (a) SET a.n", "MATCH (a) SET a.n 1", "MATCH (a) SET a.n = ", "MATCH (a) SET a.n = 1,", "MATCH (a) SET a.n.m = 1", "MATCH (a) SET a:P", "MATCH (a) SET .n = 1", "MATCH (a) SET a.n == 1", "MATCH (a) DELETE", "MATCH (a) DELETE a,", "MATCH (a) DELETE a a", "MATCH (a) DELETE a.n", "MATCH (a) DETACH a", "MATCH (a) DELETE DETACH a", "MATCH (a) DETACH DETACH DELETE a", "MATCH (a) DELETE a, a, a, a, a, a",
		"MATCH (a)", "WITH 1 AS x", "UNWIND 1 AS x", "WHERE true", "RETURN 1 AS x RETURN 1 AS x", "RETURN 1 AS x CREATE ()", "RETURN a AS a", "MATCH (a) RETURN (1 + count(*)) AS x", "WHERE true WHERE true WHERE true WHERE true WHERE true WHERE true WHERE true WHERE true RETURN 1 AS x", "RETURN 1 AS a, 1 AS b, 1 AS c, 1 AS d, 1 AS e, 1 AS f", "RETURN [1, 2, 3, 4, 5, 6, 7] AS x", "RETURN #1 AS x", "RETURN 1 AS x;", "RETURN 1 AS x)",
		strings.Repeat("(", 1000), strings.Repeat("MATCH ", 160), strings.Repeat("WITH 1 AS x ", 80) + "RETURN 1 AS x", strings.Repeat("MATCH (a) ", 200000) + "RETURN 1 AS x",
	} {
		if q, ok := impl.QueryGet(s); ok || len(q) != 0 {
			t.Errorf("%.60q is read: %+v", s, q)
		}
	}
}

func TestPromise26QuestionHasAtMostQueryMaxBytes(t *testing.T) {
	s := "RETURN 1 AS x"
	for size, want := range map[int]bool{impl.QueryMax - 1: true, impl.QueryMax: true, impl.QueryMax + 1: false} {
		for _, padded := range []string{s + strings.Repeat(" ", size-len(s)), strings.Repeat("\n", size-len(s)) + s} {
			if q, ok := impl.QueryGet(padded); ok != want || ok != (len(q) == 1) {
				t.Errorf("%d bytes: %v", size, ok)
			}
		}
	}
}

func TestPromise26WhatIsReadIsReadBack(t *testing.T) {
	read, refused := 0, 0
	for _, q := range someQuestions(t, 16) {
		s := impl.QueryPut(q)
		if len(s) > impl.QueryMax/2 {
			continue
		}
		spoilText(s, []string{"a", "1", "-", "(", ")", "]", "{", ",", ":", "<", "AS", "MATCH", "DISTINCT", "DESC", "LIMIT", "RETURN", "true"}, func(s string) {
			got, ok := impl.QueryGet(s)
			if !ok {
				refused++
				if len(got) != 0 {
					t.Fatalf("%q is refused as %+v", s, got)
				}
				return
			}
			read++
			again, back := impl.QueryGet(impl.QueryPut(got))
			words, _ := impl.Words(s)
			put, _ := impl.Words(impl.QueryPut(got))
			if impl.QueryCheck(got) != impl.QueryFine || !back || !same(again, got) || !slices.Equal(words, put) {
				t.Fatalf("%q is read as %+v", s, got)
			}
		})
	}
	if read < 500 || refused < 1000 {
		t.Errorf("%d read, %d refused", read, refused)
	}
}

// Promise 27: a question that is fine uses no name that is not there.
func TestPromise27NoNameThatIsNotThere(t *testing.T) {
	always, none := where(value(yes())), where(variable("none"))
	for _, q := range someQuestions(t, 800) {
		if len(q) == impl.ClauseMax {
			if code := impl.QueryCheck(append([]impl.Clause{always}, q...)); code != impl.QueryForm {
				t.Fatalf("one clause more: %d", code)
			}
			continue
		}
		for at := range q {
			if code := impl.QueryCheck(slices.Insert(slices.Clone(q), at, always)); code != impl.QueryFine {
				t.Fatalf("WHERE true at %d of %s: %d", at, impl.QueryPut(q), code)
			}
			if code := impl.QueryCheck(slices.Insert(slices.Clone(q), at, none)); code != impl.QueryNone {
				t.Fatalf("a name that is not there at %d of %s: %d", at, impl.QueryPut(q), code)
			}
		}
		if code := impl.QueryCheck(append(slices.Clone(q), always)); code != impl.QueryPlace {
			t.Fatalf("WHERE behind %s: %d", impl.QueryPut(q), code)
		}
	}
}

// Promise 28: a question asks for no more than it must be given.
func TestPromise28WhatMustBeGiven(t *testing.T) {
	for s, want := range map[string][]string{
		"RETURN 1 AS x": nil, "RETURN $p AS x": {"p"}, "MATCH (a {n: $q}) SET a.n = $p RETURN a.n AS n": {"p", "q"}, "CREATE ()-[:K]->({n: ($a = $B)})": {"B", "a"}, "CREATE ({n: $z}), ({m: $y})": {"y", "z"},
		"UNWIND $l AS l WHERE (NOT ($p IS NULL)) WITH sum(($p + $p1)) AS s, $o AS o RETURN s AS s": {"l", "o", "p", "p1"}, "MATCH (p) RETURN p AS p": nil, "OPTIONAL MATCH ({n: $p})-[]-({n: $p}) RETURN '$q' AS x": {"p"},
	} {
		if got := impl.QueryGiven(question(t, s)); !slices.Equal(got, want) {
			t.Errorf("%s: %v", s, got)
		}
	}
	for _, q := range someQuestions(t, 1000) {
		got := impl.QueryGiven(q)
		words, _ := impl.Words(impl.QueryPut(q))
		var want []string
		for i, word := range words {
			if word == "$" {
				want = append(want, words[i+1])
			}
		}
		slices.Sort(want)
		if !slices.Equal(got, slices.Compact(want)) {
			t.Fatalf("%s: %v", impl.QueryPut(q), got)
		}
	}
}

// Promise 29: a question has as many columns as its end tells.
func TestPromise29Columns(t *testing.T) {
	returns := 0
	for _, q := range someQuestions(t, 1000) {
		names, last := impl.QueryNames(q), q[len(q)-1]
		var want []string
		for _, i := range last.Items {
			want = append(want, i.Name)
		}
		once := slices.Clone(names)
		slices.Sort(once)
		if !slices.Equal(names, want) || len(slices.Compact(once)) != len(names) || (len(names) > 0) != (last.Kind == impl.ClauseReturn) {
			t.Fatalf("%s: %v", impl.QueryPut(q), names)
		}
		if len(names) == 0 && !impl.QueryWrites(q) {
			t.Fatalf("%s tells nothing, and writes nothing", impl.QueryPut(q))
		}
		if len(names) > 0 {
			returns++
		}
	}
	if returns < 100 || returns > 900 {
		t.Errorf("%d with columns", returns)
	}
}

func TestPromise29WhatWrites(t *testing.T) {
	for s, want := range map[string]bool{
		"RETURN 1 AS x": false, "MATCH (a) WHERE true UNWIND 1 AS u WITH a AS a RETURN a AS a": false, "OPTIONAL MATCH (a) RETURN a AS a": false,
		"CREATE ()": true, "CREATE (a) RETURN a AS a": true, "MATCH (a) SET a.n = 1": true, "MATCH (a) SET a.n = 1 RETURN a AS a": true, "MATCH (a) DELETE a": true, "MATCH (a) DETACH DELETE a WITH 1 AS x RETURN x AS x": true,
	} {
		q := question(t, s)
		if impl.QueryWrites(q) != want {
			t.Errorf("%s: %v", s, !want)
		}
	}
	if impl.QueryWrites(append(question(t, "CREATE ()"), where(one))) || impl.QueryWrites(nil) || len(impl.QueryNames(nil)) != 0 || len(impl.QueryGiven(nil)) != 0 || impl.QueryPut(nil) != "" {
		t.Error("what is not fine")
	}
}

// Promise 77: the first columns of a question are fine by themselves.
func TestPromise77FirstColumnAlone(t *testing.T) {
	asked := 0
	for _, q := range someQuestions(t, 1000) {
		last := q[len(q)-1]
		if last.Kind != impl.ClauseReturn {
			continue
		}
		all := impl.QueryNames(q)
		for n := 1; n <= len(all); n++ {
			less := last
			less.Items, less.Orders = last.Items[:n], nil
			first := append(slices.Clone(q[:len(q)-1]), less)
			if impl.QueryCheck(first) != impl.QueryFine || !slices.Equal(impl.QueryNames(first), all[:n]) {
				t.Fatalf("%s, the first %d alone: %v", impl.QueryPut(q), n, impl.QueryNames(first))
			}
			asked++
		}
	}
	if asked < 300 {
		t.Errorf("asked %d times", asked)
	}
}
