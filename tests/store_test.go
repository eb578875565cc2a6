package tests

import (
	"fmt"
	"slices"
	"testing"

	"loop.example/ashlar/impl"
)

func askOf(s string, given ...impl.Cell) impl.Ask {
	return impl.Ask{Text: s, Given: given}
}

func nameRule() []impl.Rule {
	return []impl.Rule{{Label: "P", Name: "name"}}
}

func newStore(t *testing.T, rules []impl.Rule) impl.Store {
	t.Helper()
	s, ok := impl.StoreNew(rules)
	if !ok {
		t.Fatal("no store")
	}
	return s
}

// The steps of a store, of which none may go wrong.

func mustBegin(t *testing.T, s impl.Store) (impl.Store, int) {
	t.Helper()
	s, id, ok := impl.TxBegin(s)
	if !ok {
		t.Fatal("nothing is begun")
	}
	return s, id
}

func mustAsk(t *testing.T, s impl.Store, a impl.Ask) impl.Store {
	t.Helper()
	s, _, code := impl.StoreAsk(s, a)
	if code != 0 {
		t.Fatalf("%s: code %d", a.Text, code)
	}
	return s
}

func mustTxAsk(t *testing.T, s impl.Store, id int, a impl.Ask) impl.Store {
	t.Helper()
	s, _, code := impl.TxAsk(s, id, a)
	if code != 0 {
		t.Fatalf("%s: code %d", a.Text, code)
	}
	return s
}

func mustKeep(t *testing.T, s impl.Store, id int) impl.Store {
	t.Helper()
	s, code := impl.TxKeep(s, id)
	if code != 0 {
		t.Fatalf("keep: code %d", code)
	}
	return s
}

// busyStore has three questions done, two of them together, so its state is 2; under way are one that began ahead of these two and wrote (0), one that wrote twice since (2), and one that only asked (3).
func busyStore(t *testing.T) impl.Store {
	t.Helper()
	s := newStore(t, nameRule())
	s = mustAsk(t, s, askOf("CREATE (:P {name: 'ann', l: $l})-[:K]->(:P {name: 'bob'})", cell("l", list(num(1), list(text("x"))))))
	s, late := mustBegin(t, s)
	s = mustTxAsk(t, s, late, askOf("MATCH (a:P {name: 'ann'}) SET a.n = 7"))
	s, both := mustBegin(t, s)
	s = mustTxAsk(t, s, both, askOf("CREATE (:Q {name: $who})", cell("who", text("cat")), cell("more", null())))
	s = mustTxAsk(t, s, both, askOf("MATCH (a)-[e]->(b) SET e.w = 3"))
	s = mustKeep(t, s, both)
	s, writer := mustBegin(t, s)
	s = mustTxAsk(t, s, writer, askOf("MATCH (a:Q) SET a.n = $n", cell("n", list())))
	s = mustTxAsk(t, s, writer, askOf("MATCH (a:none) SET a.n = 1"))
	s, reader := mustBegin(t, s)
	s = mustTxAsk(t, s, reader, askOf("MATCH (a) RETURN a AS a"))
	return s
}

func TestBusyStoreIsAsItSays(t *testing.T) {
	s := busyStore(t)
	if s.State != 2 || len(s.Done) != 3 || s.Next != 4 || len(s.Graph.Nodes) != 3 || len(s.Graph.Edges) != 1 {
		t.Fatalf("%+v", s)
	}
	for i, want := range []impl.Tx{{Id: 0, Base: 1}, {Id: 2, Base: 2}, {Id: 3, Base: 2}} {
		if got := s.Txs[i]; got.Id != want.Id || got.Base != want.Base || len(got.Asks) != []int{1, 2, 0}[i] {
			t.Errorf("%d: %+v", i, got)
		}
	}
	if len(s.Txs) != 3 || !same(s.Txs[2].Graph, s.Graph) || same(s.Txs[0].Graph, s.Graph) || same(s.Txs[1].Graph, s.Graph) {
		t.Errorf("%+v", s.Txs)
	}
}

// okStores is stores that are ok, among them those at each edge.
func okStores(t *testing.T) map[string]impl.Store {
	all := map[string]impl.Store{"nothing": {}, "rules alone": {Rules: []impl.Rule{{Label: "P", Name: "a"}, {Label: "P", Name: "b"}, {Label: "Q", Name: "a"}}}}
	busy := func(name string, change func(s *impl.Store)) {
		s := busyStore(t)
		change(&s)
		all[name] = s
	}
	busy("busy", func(s *impl.Store) {})
	busy("state is how many are done", func(s *impl.Store) { s.State = 3; s.Txs = s.Txs[:1] })
	busy("state is 1", func(s *impl.Store) { s.State = 1; s.Txs = nil })
	busy("next is the last number", func(s *impl.Store) { s.Next = impl.NumMax })
	busy("numbers up to the last", func(s *impl.Store) { s.Next = impl.NumMax; s.Txs[2].Id = impl.NumMax - 1 })
	busy("nothing under way", func(s *impl.Store) { s.Txs = nil; s.Next = 0 })
	busy("begun with nothing", func(s *impl.Store) { s.Txs[0].Base = 0 })
	busy("late, with another graph", func(s *impl.Store) { s.Txs[0].Graph = smallGraph() })
	busy("late, with no questions", func(s *impl.Store) {
		s.Txs[0].Asks = []impl.Ask{askOf("none"), askOf(""), askOf("MATCH (a) RETURN a AS a"), askOf("CREATE (:P {n: $none})")}
	})
	busy("late, with as many questions as may be", func(s *impl.Store) {
		s.Txs[0].Asks = slices.Repeat([]impl.Ask{askOf("none")}, impl.DoneMax)
	})
	busy("late, without questions", func(s *impl.Store) { s.Txs[0].Asks = nil })
	for i, cells := range wrongCells() {
		busy(fmt.Sprint("late, given ", i), func(s *impl.Store) { s.Txs[0].Asks = []impl.Ask{askOf("CREATE (a)", cells...)} })
	}
	busy("all that may be under way", func(s *impl.Store) {
		*s, _ = mustBegin(t, *s)
	})
	busy("a rule more that holds all the way", func(s *impl.Store) { s.Rules = append(s.Rules, impl.Rule{Label: "Q", Name: "n"}) })
	busy("rules less", func(s *impl.Store) { s.Rules = nil })
	all["gaps"] = gapStore(t)
	all["as many done as may be"] = fullStore(t, impl.DoneMax)
	all["as many together as may be"] = fullTx(t, 0, impl.DoneMax)
	return all
}

// fullStore is a store of so many questions that were done by themselves and change nothing.
func fullStore(t *testing.T, done int) impl.Store {
	t.Helper()
	s := newStore(t, nil)
	for range done {
		s = mustAsk(t, s, askOf("MATCH (a) SET a.n = 1"))
	}
	return s
}

// fullTx is a store of so many questions, and one under way, number 0, with so many of its own.
func fullTx(t *testing.T, done int, asks int) impl.Store {
	t.Helper()
	s, id := mustBegin(t, fullStore(t, done))
	for range asks {
		s = mustTxAsk(t, s, id, askOf("MATCH (a) SET a.n = 1"))
	}
	return s
}

// gapStore is a store with the second node alone, and the second edge, of two each.
func gapStore(t *testing.T) impl.Store {
	t.Helper()
	s := mustAsk(t, newStore(t, nil), askOf("CREATE (a {n: 1}), (b {n: 2})-[:K]->(b)-[:K]->(b)"))
	s = mustAsk(t, s, askOf("MATCH (a {n: 1}) DELETE a"))
	return mustAsk(t, s, askOf("MATCH (a)-[e]->(a) WITH e AS e ORDER BY e LIMIT 1 DELETE e"))
}

// wrongStores is stores that are not ok, each by one thing that was done to busyStore.
func wrongStores(t *testing.T) map[string]impl.Store {
	all := map[string]impl.Store{"state without anything done": {State: 1}, "a graph without anything done": {Graph: impl.Graph{NextNode: 1}}, "next below 0": {Next: -1}, "nothing next": {Txs: []impl.Tx{{}}}}
	busy := func(name string, spoil func(s *impl.Store)) {
		s := busyStore(t)
		spoil(&s)
		all[name] = s
	}
	for i, rules := range wrongRules() {
		busy(fmt.Sprint("rules ", i), func(s *impl.Store) { s.Rules = rules })
		all[fmt.Sprint("rules alone ", i)] = impl.Store{Rules: rules}
	}
	all["another node is gone"], all["another edge is gone"] = gapStore(t), gapStore(t)
	all["another node is gone"].Graph.Nodes[0].Id--
	all["another edge is gone"].Graph.Edges[0].Id--
	for i, cells := range wrongCells() {
		busy(fmt.Sprint("done, given ", i), func(s *impl.Store) { s.Done[2].Given = cells })
		busy(fmt.Sprint("under way, given ", i), func(s *impl.Store) { s.Txs[1].Asks[1].Given = cells })
	}
	busy("state below 0", func(s *impl.Store) { s.State = -1; s.Txs = nil })
	busy("no state, though something is done", func(s *impl.Store) { s.State = 0; s.Txs = nil })
	busy("state above how many are done", func(s *impl.Store) { s.State = 4; s.Txs = nil })
	busy("next too great", func(s *impl.Store) { s.Next = impl.NumMax + 1 })
	busy("next is the last one", func(s *impl.Store) { s.Next = 3 })
	busy("number below 0", func(s *impl.Store) { s.Txs[0].Id = -1 })
	busy("number twice", func(s *impl.Store) { s.Txs[1].Id = 3 })
	busy("numbers out of order", func(s *impl.Store) { s.Txs[1], s.Txs[2] = s.Txs[2], s.Txs[1] })
	busy("too many under way", func(s *impl.Store) {
		s.Next = 9
		for id := range 2 {
			s.Txs = append(s.Txs, impl.Tx{Id: 5 + id, Base: 2, Graph: s.Graph})
		}
	})
	busy("base below 0", func(s *impl.Store) { s.Txs[0].Base = -1 })
	busy("base above state", func(s *impl.Store) { s.Txs[2].Base = 3 })
	busy("late, with too many questions", func(s *impl.Store) {
		s.Txs[0].Asks = slices.Repeat([]impl.Ask{askOf("none")}, impl.DoneMax+1)
	})
	busy("late, with a graph that breaks a rule", func(s *impl.Store) { s.Txs[0].Graph.Nodes[1].Props[0].Value = text("ann") })
	for name, g := range wrongGraphs() {
		busy("late: "+name, func(s *impl.Store) { s.Txs[0].Graph = g })
		busy("under way: "+name, func(s *impl.Store) { s.Txs[2].Graph = g })
		busy("the graph: "+name, func(s *impl.Store) { s.Graph = g })
	}
	spoilGraphs(busy)
	spoilAsks(busy)
	tooMany := fullStore(t, impl.DoneMax)
	tooMany.Done = append(tooMany.Done, tooMany.Done[0])
	all["too many done"] = tooMany
	together := fullTx(t, 0, impl.DoneMax)
	together.Txs[0].Asks = append(together.Txs[0].Asks, together.Txs[0].Asks[0])
	all["too many together"] = together
	return all
}

// spoilGraphs makes each graph of a store, that of who is late left out, another one that is ok, by one thing.
func spoilGraphs(busy func(name string, spoil func(s *impl.Store))) {
	for what, spoil := range map[string]func(g *impl.Graph){
		"next node":      func(g *impl.Graph) { g.NextNode++ },
		"next edge":      func(g *impl.Graph) { g.NextEdge++ },
		"a node's id":    func(g *impl.Graph) { g.Nodes[2].Id++; g.NextNode++ },
		"a node less":    func(g *impl.Graph) { g.Nodes = g.Nodes[:2] },
		"a label":        func(g *impl.Graph) { g.Nodes[2].Labels = []string{"R"} },
		"a label less":   func(g *impl.Graph) { g.Nodes[2].Labels = nil },
		"a prop's name":  func(g *impl.Graph) { g.Nodes[1].Props[0].Name = "other" },
		"a prop's value": func(g *impl.Graph) { g.Nodes[0].Props[0].Value = list(num(1), list(text("y"))) },
		"a prop less":    func(g *impl.Graph) { g.Nodes[1].Props = nil },
		"an edge less":   func(g *impl.Graph) { g.Edges = nil },
		"an edge's id":   func(g *impl.Graph) { g.Edges[0].Id++; g.NextEdge++ },
		"an edge's kind": func(g *impl.Graph) { g.Edges[0].Kind = "L" },
		"an edge's from": func(g *impl.Graph) { g.Edges[0].From = 2 },
		"an edge's to":   func(g *impl.Graph) { g.Edges[0].To = 2 },
		"an edge's prop": func(g *impl.Graph) { g.Edges[0].Props[0].Value = text("3") },
	} {
		busy("the graph has another one: "+what, func(s *impl.Store) { spoil(&s.Graph); s.Txs = nil })
		busy("who writes has another one: "+what, func(s *impl.Store) { spoil(&s.Txs[1].Graph) })
		busy("who asks has another one: "+what, func(s *impl.Store) { spoil(&s.Txs[2].Graph) })
	}
	busy("all graphs have another one", func(s *impl.Store) {
		s.Graph.NextNode++
		s.Txs[1].Graph.NextNode++
		s.Txs[2].Graph.NextNode++
	})
}

// spoilAsks makes what is done, and what is under way, something that does not lead to the graph, or does so by what does not write.
func spoilAsks(busy func(name string, spoil func(s *impl.Store))) {
	for what, a := range map[string]impl.Ask{
		"an empty text":      {},
		"no question":        askOf("CREATE"),
		"does not write":     askOf("MATCH (a) RETURN a AS a"),
		"asks for a name":    askOf("MATCH (a) SET a.k = $none"),
		"breaks a rule":      askOf("MATCH (a:P) SET a.name = 'x'"),
		"makes something":    askOf("CREATE (:Q)"),
		"is too long":        askOf("MATCH (a:none) SET a.n = 1" + string(slices.Repeat([]byte{' '}, impl.QueryMax))),
		"deletes what holds": askOf("MATCH (a {name: 'ann'}) DELETE a"),
	} {
		busy("the last of what is done: "+what, func(s *impl.Store) { s.Done = append(s.Done, a) })
		busy("amid what is done: "+what, func(s *impl.Store) { s.Done = slices.Insert(s.Done, 1, a) })
		busy("the last under way: "+what, func(s *impl.Store) { s.Txs[1].Asks = append(s.Txs[1].Asks, a) })
		busy("alone under way: "+what, func(s *impl.Store) { s.Txs[2].Asks = []impl.Ask{a} })
	}
	busy("one done less", func(s *impl.Store) { s.Done = s.Done[:2] })
	busy("done out of order", func(s *impl.Store) { s.Done[0], s.Done[2] = s.Done[2], s.Done[0] })
	busy("done twice", func(s *impl.Store) { s.Done = append(s.Done, s.Done[1]) })
	busy("another one given", func(s *impl.Store) { s.Done[1].Given[0].Value = text("dog") })
	busy("one under way less", func(s *impl.Store) { s.Txs[1].Asks = s.Txs[1].Asks[1:] })
	busy("what was given is gone", func(s *impl.Store) { s.Done[1].Given = nil })
	busy("who wrote did not", func(s *impl.Store) { s.Txs[1].Asks = nil })
	busy("a rule broken halfway", func(s *impl.Store) {
		s.Txs = nil
		s.Rules = []impl.Rule{{Label: "P", Name: "k"}}
		s.Done = append(s.Done, askOf("MATCH (a:P) SET a.k = 1"), askOf("MATCH (a:P) SET a.k = null"))
	})
}

func TestStoreOk(t *testing.T) {
	for what, s := range okStores(t) {
		if !impl.StoreOk(s) {
			t.Errorf("%s: not ok", what)
		}
	}
	for what, s := range wrongStores(t) {
		if impl.StoreOk(s) {
			t.Errorf("%s: ok", what)
		}
	}
}

// Of a store that is not ok each function has its one fixed answer.
func TestStoresThatAreNotOk(t *testing.T) {
	none := impl.Store{}
	for what, s := range wrongStores(t) {
		if got, id, ok := impl.TxBegin(s); !same(got, none) || id != 0 || ok {
			t.Errorf("%s: TxBegin %d %v", what, id, ok)
		}
		for _, a := range []impl.Ask{askOf("RETURN 1 AS x"), askOf("CREATE (a)"), askOf("none")} {
			if got, table, code := impl.StoreAsk(s, a); !same(got, none) || !same(table, impl.Table{}) || code != impl.ErrForm {
				t.Errorf("%s: StoreAsk %+v %d", what, table, code)
			}
			for _, id := range []int{0, 2, 3, 77} {
				if got, table, code := impl.TxAsk(s, id, a); !same(got, none) || !same(table, impl.Table{}) || code != impl.ErrForm {
					t.Errorf("%s: TxAsk %d %+v %d", what, id, table, code)
				}
			}
		}
		for _, id := range []int{0, 2, 3, 77} {
			if got, code := impl.TxKeep(s, id); !same(got, none) || code != impl.ErrForm {
				t.Errorf("%s: TxKeep %d %d", what, id, code)
			}
			if got, ok := impl.TxBack(s, id); !same(got, none) || ok {
				t.Errorf("%s: TxBack %d %v", what, id, ok)
			}
		}
	}
}

// Numbers that nobody has are told of, and all stays as it is.
func TestNumbersThatNobodyHas(t *testing.T) {
	s := busyStore(t)
	for _, id := range []int{-1, 1, 4, 77, -1 << 63, 1<<63 - 1} {
		for _, a := range []impl.Ask{askOf("RETURN 1 AS x"), askOf("CREATE (a)"), askOf("none"), askOf("RETURN $none AS x")} {
			if got, table, code := impl.TxAsk(s, id, a); !same(got, s) || !same(table, impl.Table{}) || code != impl.ErrName {
				t.Errorf("TxAsk %d %s: %d %+v", id, a.Text, code, table)
			}
		}
		if got, code := impl.TxKeep(s, id); !same(got, s) || code != impl.ErrName {
			t.Errorf("TxKeep %d: %d", id, code)
		}
		if got, ok := impl.TxBack(s, id); !same(got, s) || ok {
			t.Errorf("TxBack %d: %v", id, ok)
		}
	}
}

// failing is questions that go wrong in busyStore, and in each graph that is under way there, by their codes; where several do, the first is told.
func failing() map[string]int {
	return map[string]int{
		"":                                      impl.ErrForm,
		"none":                                  impl.ErrForm,
		"CREATE":                                impl.ErrForm,
		"MATCH (a)":                             impl.ErrForm,
		"RETURN a AS a":                         impl.ErrForm,
		"RETURN 1 AS x RETURN 1 AS x":           impl.ErrForm,
		"RETURN $none AS x":                     impl.ErrName,
		"CREATE (a {n: $none})":                 impl.ErrName,
		"CREATE (a {n: $none, m: [null]})":      impl.ErrName,
		"CREATE (a {m: [null], n: $none})":      impl.ErrType,
		"WHERE 1 CREATE (a)":                    impl.ErrType,
		"RETURN (1000000000 + 1) AS x":          impl.ErrNum,
		"CREATE (a {n: (1000000000 + 1)})":      impl.ErrNum,
		"MATCH (a:P) SET a.name = 'x'":          impl.ErrRule,
		"MATCH (a {name: 'ann'}) DELETE a":      impl.ErrHeld,
		"MATCH (a), (b), (c) RETURN a AS a":     impl.ErrForm,
		"CREATE (:P {name: 'bob'}) RETURN 1 AS": impl.ErrForm,
		"CREATE (:P {name: 'bob'})":             impl.ErrRule,
		"UNWIND [1, 2, 3, 4, 5, 6] AS x UNWIND [1, 2, 3, 4, 5, 6] AS y UNWIND [1, 2] AS z CREATE (a)": impl.ErrMany,
		"UNWIND [1, 2, 3, 4, 5, 6] AS x UNWIND [1, 2, 3] AS y CREATE (a)":                             impl.ErrFull,
		"CREATE (a {n: 1}) SET a.a = 1, a.b = 1, a.c = 1, a.d = 1":                                    impl.ErrFull,
		"CREATE (a {n: 1}) WITH a AS a SET a.a = 1, a.b = 1, a.c = 1, a.d = $none":                    impl.ErrName,
		"UNWIND [1, 2, 3, 4, 5, 6] AS x UNWIND [1, 2, 3] AS y CREATE (:P {name: 'bob'})":              impl.ErrFull,
		"CREATE (:P {name: 'bob'}) WITH 1 AS x UNWIND x AS y CREATE (:P {name: 'bob', y:y})":          impl.ErrType,
	}
}

// Promises 49 and 51: what goes wrong changes nothing, and tells the first code.
func TestPromise49WhatGoesWrongChangesNothing(t *testing.T) {
	s := busyStore(t)
	for text, want := range failing() {
		checkFails(t, s, askOf(text), want)
	}
	for _, cells := range wrongCells() {
		for _, text := range []string{"RETURN 1 AS z", "CREATE (a)", "none"} {
			checkFails(t, s, askOf(text, cells...), impl.ErrForm)
		}
	}
	long := "RETURN 1 AS x" + string(slices.Repeat([]byte{' '}, impl.QueryMax-13))
	checkFails(t, s, askOf(long+" "), impl.ErrForm)
	if _, table, code := impl.StoreAsk(s, askOf(long)); code != 0 || len(table.Rows) != 1 {
		t.Errorf("as long as it may be: %d", code)
	}
}

func checkFails(t *testing.T, s impl.Store, a impl.Ask, want int) {
	t.Helper()
	if got, table, code := impl.StoreAsk(s, a); code != want || !same(got, s) || !same(table, impl.Table{}) {
		t.Errorf("StoreAsk %q: %d, not %d, or something is left behind", a.Text, code, want)
	}
	for _, id := range []int{0, 2, 3} {
		if got, table, code := impl.TxAsk(s, id, a); code != want || !same(got, s) || !same(table, impl.Table{}) {
			t.Errorf("TxAsk %d %q: %d, not %d, or something is left behind", id, a.Text, code, want)
		}
	}
}

// Promise 48: a store begins with nothing in it.
func TestPromise48StoreBeginsWithNothing(t *testing.T) {
	full := []impl.Rule{{Label: "A", Name: "a"}, {Label: "A", Name: "b"}, {Label: "B", Name: "a"}}
	for _, rules := range append(someRules(), full) {
		if s, ok := impl.StoreNew(rules); !ok || !same(s, impl.Store{Rules: rules}) || !impl.StoreOk(s) {
			t.Errorf("%v: %+v", rules, s)
		}
	}
	for _, rules := range wrongRules() {
		if s, ok := impl.StoreNew(rules); ok || !same(s, impl.Store{}) {
			t.Errorf("%v: %+v", rules, s)
		}
	}
}

// Promise 49: what a question that is asked by itself leaves behind.
func TestPromise49QuestionByItself(t *testing.T) {
	s := newStore(t, nameRule())
	a := askOf("CREATE (a:P {name: $who}) RETURN a.name AS name", cell("who", text("ann")))
	s1, table, code := impl.StoreAsk(s, a)
	want := impl.Store{Graph: impl.Graph{Nodes: []impl.Node{{Labels: []string{"P"}, Props: []impl.Prop{prop("name", text("ann"))}}}, NextNode: 1}, Rules: nameRule(), State: 1, Done: []impl.Ask{a}}
	if code != 0 || !same(s1, want) || impl.TablePut(table) != "name\n'ann'\n" {
		t.Errorf("%d %+v %+v", code, table, s1)
	}
	if s2, _, code := impl.StoreAsk(s1, a); code != impl.ErrRule || !same(s2, s1) {
		t.Errorf("%d %+v", code, s2)
	}
	if s2, table, code := impl.StoreAsk(s1, askOf("MATCH (a) RETURN a.name AS name")); code != 0 || !same(s2, s1) || impl.TablePut(table) != "name\n'ann'\n" {
		t.Errorf("%d %+v %+v", code, table, s2)
	}
}

// What writes is kept, even if nothing is otherwise then; what does not write never is.
func TestPromise49WhatWritesAndChangesNothing(t *testing.T) {
	s := busyStore(t)
	for _, text := range []string{"MATCH (a:none) SET a.n = 1", "MATCH (a:none) DELETE a", "MATCH (a:none) DETACH DELETE a", "WHERE false CREATE (a)", "MATCH (a:none) SET a.n = 1 RETURN a AS a", "MATCH (a)-[e]->(b) SET e.w = 3 RETURN e.w AS w"} {
		want := busyStore(t)
		want.State, want.Done = 3, append(want.Done, askOf(text))
		got, table, code := impl.StoreAsk(s, askOf(text))
		if code != 0 || !same(got, want) || !same(table.Names, impl.QueryNames(question(t, text))) {
			t.Errorf("%s: %d %+v", text, code, got)
		}
		for i, id := range []int{0, 2, 3} {
			want := busyStore(t)
			want.Txs[i].Asks = append(want.Txs[i].Asks, askOf(text))
			if text == "MATCH (a)-[e]->(b) SET e.w = 3 RETURN e.w AS w" && id == 0 {
				want.Txs[i].Graph.Edges[0].Props = []impl.Prop{prop("w", num(3))}
			}
			if got, _, code := impl.TxAsk(s, id, askOf(text)); code != 0 || !same(got, want) {
				t.Errorf("%s in %d: %d %+v", text, id, code, got)
			}
		}
		if kept, code := impl.TxKeep(got, 2); code != impl.ErrClash || len(kept.Txs) != 2 {
			t.Errorf("%s: it is no change: %d", text, code)
		}
	}
	for _, text := range []string{"RETURN 1 AS x", "MATCH (a) RETURN a AS a", "MATCH (a:none) RETURN a AS a"} {
		if got, _, code := impl.StoreAsk(s, askOf(text)); code != 0 || !same(got, s) {
			t.Errorf("%s: %d %+v", text, code, got)
		}
	}
}

// isRefused asks that a code comes, with all as it is, if it should, and else that something is told.
func isRefused(t *testing.T, what string, before impl.Store, after impl.Store, table impl.Table, code int, want int) {
	t.Helper()
	if code != want || (code != 0 && !same(table, impl.Table{})) || (code == 0 && len(table.Names) == 0) {
		t.Errorf("%s: %d, not %d; %+v", what, code, want, table)
	}
	if code != 0 && !same(after, before) {
		t.Errorf("%s: something is left behind", what)
	}
}

// Limits of what is done: each is met exactly, and one more is refused, but only of what writes, and goes right.
func TestPromise49LimitOfDone(t *testing.T) {
	write, ask := askOf("MATCH (a) SET a.n = 1 RETURN 1 AS x"), askOf("RETURN 1 AS x")
	wrong := map[string]int{"CREATE": impl.ErrForm, "WHERE 1 CREATE (a)": impl.ErrType, "CREATE (a {n: $none})": impl.ErrName, "RETURN $none AS x": impl.ErrName}
	for size, want := range map[int]int{impl.DoneMax - 1: 0, impl.DoneMax: impl.ErrFull} {
		done, under := fullStore(t, size), fullTx(t, 0, size)
		s, table, code := impl.StoreAsk(done, write)
		isRefused(t, "StoreAsk", done, s, table, code, want)
		if len(s.Done) != impl.DoneMax || s.State != impl.DoneMax {
			t.Errorf("%d done: %+v", size, s)
		}
		s, table, code = impl.TxAsk(under, 0, write)
		isRefused(t, "TxAsk", under, s, table, code, want)
		if len(s.Txs[0].Asks) != impl.DoneMax {
			t.Errorf("%d together: %+v", size, s)
		}
		if s, table, code := impl.StoreAsk(done, ask); code != 0 || !same(s, done) || len(table.Rows) != 1 {
			t.Errorf("%d done, and who only asks: %d", size, code)
		}
		if s, table, code := impl.TxAsk(under, 0, ask); code != 0 || !same(s, under) || len(table.Rows) != 1 {
			t.Errorf("%d together, and who only asks: %d", size, code)
		}
		for text, want := range wrong {
			s, table, code := impl.StoreAsk(done, askOf(text))
			isRefused(t, text, done, s, table, code, want)
			s, table, code = impl.TxAsk(under, 0, askOf(text))
			isRefused(t, text, under, s, table, code, want)
		}
	}
}
