package tests

import (
	"reflect"
	"slices"
	"testing"

	"loop.example/ashlar/impl"
)

// span is where a list lies, spare room included.
type span struct {
	from uintptr
	end  uintptr
}

// spans is where all lists of something lie, and those within their spare room.
func spans(x reflect.Value) []span {
	var all []span
	switch x.Kind() {
	case reflect.Slice:
		if x.Cap() == 0 {
			return nil
		}
		all = append(all, span{x.Pointer(), x.Pointer() + uintptr(x.Cap())*x.Type().Elem().Size()})
		whole := x.Slice3(0, x.Cap(), x.Cap())
		for i := range whole.Len() {
			all = append(all, spans(whole.Index(i))...)
		}
	case reflect.Struct:
		for i := range x.NumField() {
			all = append(all, spans(x.Field(i))...)
		}
	}
	return all
}

// whole is a copy of something in which what stands in the spare room of a list is part of it.
func whole(x reflect.Value) reflect.Value {
	switch x.Kind() {
	case reflect.Slice:
		all := x.Slice3(0, x.Cap(), x.Cap())
		y := reflect.MakeSlice(x.Type(), all.Len(), all.Len())
		for i := range all.Len() {
			y.Index(i).Set(whole(all.Index(i)))
		}
		return y
	case reflect.Struct:
		y := reflect.New(x.Type()).Elem()
		for i := range x.NumField() {
			y.Field(i).Set(whole(x.Field(i)))
		}
		return y
	default:
		return x
	}
}

func sameWhole(x reflect.Value, before reflect.Value) bool {
	return reflect.DeepEqual(whole(x).Interface(), before.Interface())
}

// roomy is a copy of something whose lists all have spare room, in which something stands.
func roomy[T any](x T) T {
	return roomyAny(reflect.ValueOf(x)).Interface().(T)
}

func roomyAny(x reflect.Value) reflect.Value {
	switch x.Kind() {
	case reflect.Slice:
		y := reflect.MakeSlice(x.Type(), x.Len()+3, x.Len()+3)
		for i := range y.Len() {
			if i < x.Len() {
				y.Index(i).Set(roomyAny(x.Index(i)))
			} else {
				y.Index(i).Set(litter(x.Type().Elem()))
			}
		}
		return y.Slice(0, x.Len())
	case reflect.Struct:
		y := reflect.New(x.Type()).Elem()
		for i := range x.NumField() {
			y.Field(i).Set(roomyAny(x.Field(i)))
		}
		return y
	default:
		return x
	}
}

// litter is something that is not nothing, to be seen if it is written over.
func litter(t reflect.Type) reflect.Value {
	y := reflect.New(t).Elem()
	switch t.Kind() {
	case reflect.Struct:
		for i := range t.NumField() {
			if t.Field(i).Type.Kind() != reflect.Slice {
				y.Field(i).Set(litter(t.Field(i).Type))
			}
		}
	case reflect.String:
		y.SetString("litter")
	case reflect.Int:
		y.SetInt(77)
	}
	return y
}

// memory calls a function with arguments that have spare room, and asks that they stay as they are, and that what is answered lies elsewhere.
func memory(t *testing.T, name string, f any, args ...any) {
	t.Helper()
	var in []any
	for _, a := range args {
		in = append(in, roomyAny(reflect.ValueOf(a)).Interface())
	}
	memoryAsItIs(t, name, f, in...)
}

// memoryAsItIs does so with the arguments themselves, which may share memory with each other.
func memoryAsItIs(t *testing.T, name string, f any, args ...any) {
	t.Helper()
	var in []reflect.Value
	var before []reflect.Value
	var taken []span
	for _, a := range args {
		x := reflect.ValueOf(a)
		in = append(in, x)
		before = append(before, whole(x))
		taken = append(taken, spans(x)...)
	}
	out := reflect.ValueOf(f).Call(in)
	for i, x := range in {
		if !sameWhole(x, before[i]) {
			t.Errorf("%s writes into argument %d: %+v, then %+v", name, i, before[i], whole(x))
		}
	}
	for i, x := range out {
		for _, s := range spans(x) {
			for _, other := range taken {
				if s.from < other.end && other.from < s.end {
					t.Errorf("%s: answer %d shares memory", name, i)
				}
			}
			taken = append(taken, s)
		}
	}
}

func TestMemoryOfValues(t *testing.T) {
	all := append(ascendingValues(), wrongValues()[:len(wrongValues())-2]...)
	other := list(num(1), list(text("x"), list()), null())
	for _, v := range all {
		memory(t, "ValueOk", impl.ValueOk, v)
		memory(t, "ValuePut", impl.ValuePut, v)
		memory(t, "ValueGet", impl.ValueGet, impl.ValuePut(v))
		memory(t, "ValueSame", impl.ValueSame, v, other)
		memory(t, "ValueSame", impl.ValueSame, v, v)
		memory(t, "ValueOrder", impl.ValueOrder, v, other)
		memory(t, "ValueEqual", impl.ValueEqual, v, other)
		memory(t, "ValueLess", impl.ValueLess, v, other)
	}
}

func TestMemoryOfGraphs(t *testing.T) {
	labels, given := []string{"A", "P"}, []impl.Prop{prop("b", list(num(1), list(text("x")))), prop("c", text("y"))}
	graphs := someGraphs(t)[:16]
	for name, g := range wrongGraphs() {
		if name != "prop holds itself" {
			graphs = append(graphs, g)
		}
	}
	for _, g := range graphs {
		memory(t, "GraphOk", impl.GraphOk, g)
		memory(t, "NodeAdd", impl.NodeAdd, g, labels, given)
		memory(t, "NodeAdd", impl.NodeAdd, g, []string{"P", "A"}, given)
		for _, id := range append(nodeIds(g), -1) {
			memory(t, "EdgeAdd", impl.EdgeAdd, g, "K", id, id, given)
			memory(t, "EdgeAdd", impl.EdgeAdd, g, "9", id, id, given)
			memory(t, "NodeDrop", impl.NodeDrop, g, id, true)
			memory(t, "NodeDrop", impl.NodeDrop, g, id, false)
			memory(t, "LabelSet", impl.LabelSet, g, id, "B", true)
			memory(t, "LabelSet", impl.LabelSet, g, id, "A", false)
			memory(t, "EdgesOf", impl.EdgesOf, g, id, 0, "")
			memory(t, "EdgesOf", impl.EdgesOf, g, id, 1, "K")
		}
		for _, id := range append(edgeIds(g), -1) {
			memory(t, "EdgeDrop", impl.EdgeDrop, g, id)
		}
		for _, v := range append(allRefs(g), nodeRef(77), list(nodeRef(1))) {
			for _, name := range []string{"a", "b", "b1", "n", "name", "zZ9", "zz"} {
				memory(t, "PropGet", impl.PropGet, g, v, name)
				memory(t, "PropSet", impl.PropSet, g, v, name, given[0].Value)
				memory(t, "PropSet", impl.PropSet, g, v, name, null())
			}
		}
		memory(t, "NodesWith", impl.NodesWith, g, "")
		memory(t, "NodesWith", impl.NodesWith, g, "P")
	}
}

func TestMemoryOfRules(t *testing.T) {
	for _, rules := range append(someRules(), wrongRules()...) {
		memory(t, "RulesOk", impl.RulesOk, rules)
		for _, g := range someGraphs(t)[:10] {
			memory(t, "RulesHold", impl.RulesHold, g, rules)
			memory(t, "RulesBroken", impl.RulesBroken, g, rules)
		}
	}
	for _, g := range someGraphs(t)[:16] {
		for _, v := range append(ascendingValues(), num(2), text("x")) {
			memory(t, "FindBy", impl.FindBy, g, "P", "n", v)
		}
	}
}

func TestMemoryOfExpressions(t *testing.T) {
	all := slices.Concat(everyKind(), someExprs(t, 150), endingExprs())
	for _, s := range []string{"", "a", "(a = 'x') [1, 2]", "a ?", "'"} {
		memory(t, "Words", impl.Words, s)
	}
	for _, s := range []string{"x", "l", "$q", "a.o", "(l + $q)", "(l + [])", "[1, [2]]", "([1] + [[2]])", "none"} {
		memory(t, "ExprEval", impl.ExprEval, smallGraph(), evalRow(), evalGiven(), expr(t, s))
	}
	for _, e := range all {
		memory(t, "ExprOk", impl.ExprOk, e)
		memory(t, "ExprPut", impl.ExprPut, e)
		memory(t, "ExprGet", impl.ExprGet, impl.ExprPut(e))
		memory(t, "ExprNames", impl.ExprNames, e)
		memory(t, "ExprEval", impl.ExprEval, smallGraph(), evalRow(), evalGiven(), e)
	}
}

func TestMemoryOfQuestions(t *testing.T) {
	all := append(someQuestions(t, 150), nil, []impl.Clause{end(), end()}, []impl.Clause{where(variable("none")), end()}, clauses())
	for _, q := range all {
		memory(t, "QueryCheck", impl.QueryCheck, q)
		memory(t, "QueryPut", impl.QueryPut, q)
		memory(t, "QueryGet", impl.QueryGet, impl.QueryPut(q))
		memory(t, "QueryGiven", impl.QueryGiven, q)
		memory(t, "QueryWrites", impl.QueryWrites, q)
		memory(t, "QueryNames", impl.QueryNames, q)
	}
}

func TestMemoryOfAnswers(t *testing.T) {
	l := list(num(1), list(text("x")))
	row, given := []impl.Cell{cell("z", l), cell("y", l)}, []impl.Cell{cell("l", list(l, l, null())), cell("p", num(2))}
	for _, g := range matchGraphs(4) {
		for _, paths := range append(shapes(), wrongPaths()[:20]...) {
			memory(t, "Matches", impl.Matches, g, row, given, paths)
		}
	}
	orders := []impl.Order{{Name: "x", Down: true}}
	for _, table := range append(someTables(30), wrongTables()[:9]...) {
		memory(t, "Arrange", impl.Arrange, table, true, orders, 1, -1)
		memory(t, "Arrange", impl.Arrange, table, false, orders[:0], -1, 3)
		memory(t, "TablePut", impl.TablePut, table)
	}
	for _, s := range someSpoken(t, 600) {
		memory(t, "Run", impl.Run, s.g, s.rules, s.q, spokenGiven())
	}
	for _, s := range []string{"UNWIND $l AS x UNWIND [1, 2] AS y RETURN x AS x, x AS z, $l AS l, [[1]] AS c", "MATCH (a) SET a.o = [[1]], a.k = a.o RETURN a.o AS o, a.k AS k", "CREATE (a {n: [[1]]}), (b {n: a.n}) RETURN a.n AS n, b.n AS m", "MATCH (a) DETACH DELETE a RETURN a AS a", "MATCH (a) RETURN a.o AS o, a.n AS n", "RETURN $none AS x", "RETURN [1] AS x, [1] AS y"} {
		memory(t, s, impl.Run, smallGraph(), []impl.Rule(nil), question(t, s), given)
		memory(t, s, impl.Run, smallGraph(), []impl.Rule{{Label: "9"}}, question(t, s), given)
	}
}

// memoryOfStore asks all functions of a store.
func memoryOfStore(t *testing.T, with func(t *testing.T, name string, f any, args ...any), s impl.Store) {
	t.Helper()
	l := list(num(1), text("x"))
	given := []impl.Cell{cell("l", list(l, l)), cell("p", l)}
	with(t, "StoreNew", impl.StoreNew, s.Rules)
	with(t, "StoreOk", impl.StoreOk, s)
	with(t, "TxBegin", impl.TxBegin, s)
	for _, text := range []string{"CREATE (a:P {n: $l, o: $p}) RETURN a.n AS n, $l AS l, $p AS p", "MATCH (a) SET a.k = $l RETURN a.k AS k, $l AS l", "MATCH (a) RETURN a.n AS n, $p AS p", "MATCH (a) DETACH DELETE a", "MATCH (a:none) SET a.n = 1", "CREATE", "RETURN $none AS x"} {
		with(t, text, impl.StoreAsk, s, askOf(text, given...))
		for _, id := range []int{0, 2, 3, 77} {
			with(t, text, impl.TxAsk, s, id, askOf(text, given...))
		}
	}
	for _, id := range []int{0, 1, 2, 3, 4, 77} {
		with(t, "TxKeep", impl.TxKeep, s, id)
		with(t, "TxBack", impl.TxBack, s, id)
	}
}

// sharing is a store whose lists lie in each other's memory, as far as they may.
func sharing(t *testing.T) impl.Store {
	s := busyStore(t)
	inner := list(text("x"))
	s.Done[0].Given = []impl.Cell{cell("l", list(num(1), inner)), cell("k", inner), cell("j", list(inner, inner))}
	s.Done[1].Given = append(s.Done[1].Given, s.Done[0].Given[1:]...)
	s.Txs[1].Asks[1].Given = s.Done[0].Given
	wrong := list(inner, list(inner, num(impl.NumMax+1)), inner)
	s.Txs[0].Asks = append(slices.Clone(s.Done), askOf("none", cell("x", wrong), cell("x", wrong), cell("9", list(wrong, wrong))))
	s.Txs[0].Graph, s.Txs[2].Graph = s.Graph, s.Graph
	return s
}

func TestMemoryOfStores(t *testing.T) {
	stores := append(someStores(t, 3), busyStore(t), sharing(t), impl.Store{}, fullTx(t, impl.DoneMax-1, 1), impl.Store{State: 1}, impl.Store{Rules: []impl.Rule{{Label: "9"}}})
	for _, cells := range wrongCells() {
		if v := cells[len(cells)-1].Value; len(v.List) == 0 || v.List[0].List == nil || &v.List[0] != &v.List[0].List[0] {
			late := busyStore(t)
			late.Txs[0].Asks = []impl.Ask{askOf("none", cells...)}
			stores = append(stores, late)
		}
	}
	for _, s := range stores {
		memoryOfStore(t, memory, s)
	}
	if !impl.StoreOk(sharing(t)) {
		t.Error("what shares is not ok")
	}
	memoryOfStore(t, memoryAsItIs, sharing(t))
}

// What is given to who is too late may be of any depth, and may hold itself; it stays as it is, in memory of its own.
func TestMemoryOfWhatIsNotOk(t *testing.T) {
	deep := list()
	for range 200000 {
		deep = list(deep)
	}
	wide := list(num(1))
	for range 64 {
		wide = list(wide, wide)
	}
	for i, v := range []impl.Value{holdsItself(1), holdsItself(3), list(num(1), holdsItself(2), text("x")), deep, wide} {
		s := busyStore(t)
		s.Txs[0].Asks = []impl.Ask{askOf("none", cell("x", v), cell("y", num(1)))}
		for what, do := range map[string]deed{"alone": {kind: doAlone, ask: askOf("CREATE (a)")}, "begin": {kind: doBegin}, "among": {kind: doAmong, id: 0, ask: askOf("CREATE (a)")}, "keep": {kind: doKeep, id: 2}, "back": {kind: doBack, id: 3}} {
			got, _ := do.to(s)
			if len(got.Txs) == 0 || len(got.Txs[0].Asks) == 0 || len(got.Txs[0].Asks[0].Given) != 2 {
				t.Fatalf("%d, %s: %d under way", i, what, len(got.Txs))
			}
			x := got.Txs[0].Asks[0].Given[0].Value
			if !impl.ValueSame(x, v) || &x.List[0] == &v.List[0] || &x.List[len(x.List)-1] == &v.List[len(v.List)-1] {
				t.Errorf("%d, %s: it is another one, or lies in the same place", i, what)
			}
		}
	}
}

// lateWith is a store with somebody who is too late, who was given values that are asked for nothing.
func lateWith(t *testing.T, values ...impl.Value) impl.Store {
	t.Helper()
	s := busyStore(t)
	s.Txs[0].Asks = nil
	for i, v := range values {
		s.Txs[0].Asks = append(s.Txs[0].Asks, askOf("none", cell("x", num(i)), cell("y", v)), askOf("none", cell("x", v), cell("x", v)))
	}
	return s
}

// eachList tells the lists within lists of values, each as often as it is met; one that holds itself is told, but not gone into, where it is met within itself.
func eachList(values []impl.Value, do func(l []impl.Value, isWithinItself bool)) {
	type frame struct {
		list []impl.Value
		at   int
	}
	within, open := []frame{{values, 0}}, map[*impl.Value]int{}
	for len(within) > 0 {
		last := &within[len(within)-1]
		if last.at == len(last.list) {
			if len(last.list) > 0 {
				delete(open, &last.list[0])
			}
			within = within[:len(within)-1]
			continue
		}
		l := last.list[last.at].List
		last.at++
		if len(l) == 0 {
			continue
		}
		do(l, open[&l[0]] > 0)
		if open[&l[0]] == 0 {
			open[&l[0]]++
			within = append(within, frame{l, 0})
		}
	}
}

// apart asks that no two lists of what was given share memory, with each other or with other ones, and that they are as many as they should be.
func apart(t *testing.T, what string, s impl.Store, other map[*impl.Value]int, want int) {
	t.Helper()
	seen, count := map[*impl.Value]int{}, 0
	for _, a := range s.Txs[0].Asks {
		for _, c := range a.Given {
			eachList([]impl.Value{c.Value}, func(l []impl.Value, isWithinItself bool) {
				if isWithinItself {
					return
				}
				for i := range l {
					if seen[&l[i]] > 0 || other[&l[i]] > 0 {
						t.Fatalf("%s: a list shares memory", what)
					}
				}
				seen[&l[0]]++
				count++
			})
		}
	}
	if count != want {
		t.Errorf("%s: %d lists, not %d", what, count, want)
	}
}

// No two lists of an answer share memory, however many places of an argument have one and the same.
func TestMemoryOfListsThatAreOne(t *testing.T) {
	one := list(num(1), text("x"))
	flat := func(size int) impl.Value { return list(slices.Repeat([]impl.Value{one}, size)...) }
	wide := one
	for range 14 {
		wide = list(wide, wide)
	}
	self := holdsItself(1)
	ring := list(one, impl.Value{Kind: impl.IsList}, one)
	ring.List[1].List = ring.List
	both := list(slices.Concat(slices.Repeat([]impl.Value{one}, 1002), []impl.Value{self, ring, self, ring})...)
	overlap := list(list(both.List[:3]...), impl.Value{Kind: impl.IsList, List: both.List[1:5]}, impl.Value{Kind: impl.IsList, List: both.List[:4]})
	for what, v := range map[string]impl.Value{"flat": flat(1002), "a few": flat(3), "many": flat(20000), "lists of many": list(flat(700), flat(700), one, flat(0)), "wide": wide, "other kinds": {Kind: 77, Num: 5, Text: "x", List: flat(1500).List}, "some hold themselves": both, "overlapping": overlap} {
		s, other, lists := lateWith(t, v, one, v), map[*impl.Value]int{}, 0
		for _, a := range s.Txs[0].Asks {
			for _, c := range a.Given {
				eachList([]impl.Value{c.Value}, func(l []impl.Value, isWithinItself bool) {
					if !isWithinItself {
						other[&l[0]]++
						lists++
					}
				})
			}
		}
		if !impl.StoreOk(s) {
			t.Fatal(what, " is not ok")
		}
		for name, do := range map[string]deed{"StoreAsk": {kind: doAlone, ask: askOf("CREATE (a)")}, "TxBegin": {kind: doBegin}, "TxAsk": {kind: doAmong, id: 0, ask: askOf("CREATE (a)")}, "TxKeep": {kind: doKeep, id: 2}, "TxBack": {kind: doBack, id: 3}} {
			got, _ := do.to(s)
			if len(got.Txs[0].Asks) < 6 || !impl.ValueSame(got.Txs[0].Asks[0].Given[1].Value, v) {
				t.Fatalf("%s, %s: it is another one", what, name)
			}
			got.Txs[0].Asks = got.Txs[0].Asks[:6]
			apart(t, what+", "+name, got, other, lists)
		}
		got, _, _ := impl.TalkDo(s, talkOf(impl.TalkReady, -1), msgRun("CREATE (a)"))
		apart(t, what+", TalkDo", got, other, lists)
	}
}

func TestMemoryOfTalks(t *testing.T) {
	l := list(num(1), list(text("x")))
	given := []impl.Cell{cell("l", list(l.List[1], l.List[1])), cell("p", l)}
	msgs := []impl.Msg{msgHello("a"), msgRun("CREATE (a:P {n: $l, o: $p}) RETURN a.n AS n, $l AS l, $p AS p", given...), msgRun("MATCH (a) SET a.k = $l", given...), msgRun("RETURN $none AS x", given...), msgRun("x", append(given, given...)...), msgPull(1), msgPull(2), msgPull(60), {}}
	for _, kind := range bareKinds() {
		msgs = append(msgs, msgOf(kind))
	}
	rows := impl.Talk{Mode: impl.TalkFlow, Tx: 2, Table: tableOf("x y", values(l, l), values(l, list(l.List[1])), values(list(), null()), values(l, l)), At: 1}
	if !impl.TalkOk(busyStore(t), rows) || !impl.TalkOk(sharing(t), rows) {
		t.Error("what shares is not ok")
	}
	for i, m := range msgs {
		if impl.MsgOk(m) != (i != 4 && i != 8) {
			t.Errorf("%d: %+v", i, m)
		}
		memory(t, "MsgOk", impl.MsgOk, m)
		for _, s := range []impl.Store{busyStore(t), sharing(t), {}, {State: 1}} {
			for _, talk := range []impl.Talk{talkOf(impl.TalkFresh, -1), talkOf(impl.TalkReady, -1), talkOf(impl.TalkReady, 2), talkOf(impl.TalkReady, 0), talkOf(impl.TalkFailed, 3), talkOf(impl.TalkOver, -1), rows, flowOf(-1, 2), {}} {
				memory(t, "TalkDo", impl.TalkDo, s, talk, m)
				memoryAsItIs(t, "TalkDo as it is", impl.TalkDo, s, talk, m)
				memory(t, "TalkOk", impl.TalkOk, s, talk)
			}
		}
	}
	play := append(msgs[:3:3], msgPull(1), msgPull(1), msgRun("MATCH (a) RETURN a.n AS n, a.o AS o, $l AS l", given...), msgPull(1), msgOf(impl.MsgBegin), msgRun("CREATE (a {n: $l}) RETURN a.n AS n", given...))
	memory(t, "TalkPlay", impl.TalkPlay, nameRule(), play)
	memory(t, "TalkPlay", impl.TalkPlay, []impl.Rule{{Label: "9"}}, play)
	for i := range play {
		memory(t, "TalkPlay", impl.TalkPlay, []impl.Rule(nil), play[:i])
	}
}

func TestMemoryOfTheWire(t *testing.T) {
	for _, m := range append(okMsgs(), msgRun("x", cell("a", list(list(num(1)), list(num(1)))), cell("9", num(1)))) {
		memory(t, "MsgPut", impl.MsgPut, m)
		memory(t, "MsgGet", impl.MsgGet, impl.MsgPut(m))
	}
	for s, r := range okReplies() {
		memory(t, "ReplyFine", impl.ReplyFine, r)
		memory(t, "ReplyPut", impl.ReplyPut, r)
		memory(t, "ReplyGet", impl.ReplyGet, s)
	}
	for _, r := range wrongReplies()[:23] {
		memory(t, "ReplyFine", impl.ReplyFine, r)
		memory(t, "ReplyPut", impl.ReplyPut, r)
	}
}

func TestMemoryOfServers(t *testing.T) {
	come := framesOf(msgPull(1), msgOf(impl.MsgReset), msgRun("CREATE (a {n: $l, o: $l}) RETURN a.n AS n, a.o AS o", cell("l", list(list(num(1))))), msgPull(1), msgRun("MATCH (a) RETURN a.n AS n"))
	events := []impl.Event{{Text: come}, {Link: 1, Text: come}, {Link: 2, Text: frameOf(msgOf(impl.MsgReset)) + come}, {Cut: true}, {Link: 1, Cut: true}, {Link: 7}, {Text: ""}, {Text: "x"}}
	servers := []impl.Server{busyServer(t), {}, newServer(t, 2, "a", "b")}
	one := busyServer(t)
	one.Homes[1].Store.Graph, one.Homes[1].Store.Done, one.Homes[1].Store.State = one.Homes[0].Store.Graph, one.Homes[0].Store.Done, one.Homes[0].Store.State
	one.Links[2].Talk = one.Links[0].Talk
	one.Links[2].Talk.Tx = -1
	if !impl.ServerOk(one) {
		t.Error("what shares is not ok")
	}
	for _, s := range append(servers, one) {
		memory(t, "ServerOk", impl.ServerOk, s)
		for _, e := range events {
			memory(t, "ServerDo", impl.ServerDo, s, e)
			memoryAsItIs(t, "ServerDo as it is", impl.ServerDo, s, e)
		}
	}
	names := []string{"home", "away"}
	memory(t, "ServerNew", impl.ServerNew, names, nameRule(), 3)
	memory(t, "ServerNew", impl.ServerNew, names, nameRule(), 4)
	list := append(events, impl.Event{Text: framesOf(msgHello("home"))}, impl.Event{Cut: true}, impl.Event{Text: framesOf(msgHello("home"), msgOf(impl.MsgBegin)) + come}, impl.Event{Link: 1, Text: frameOf(msgHello("home")) + come})
	memory(t, "ServerPlay", impl.ServerPlay, names, nameRule(), 3, list)
	memory(t, "ServerPlay", impl.ServerPlay, names, nameRule(), 0, list)
	memory(t, "Session", impl.Session, []string{"0 hello home", "0 run RETURN 1 AS x", "x", "1 -"})
}

// The test's own eyes are open: memory that is shared, written into or behind its end is seen.
func TestMemoryIsSeen(t *testing.T) {
	a := roomy([]impl.Value{num(1)})
	before := whole(reflect.ValueOf(a))
	_ = append(a, num(2))
	if sameWhole(reflect.ValueOf(a), before) {
		t.Error("what is written behind the end is not seen")
	}
	one, two := spans(reflect.ValueOf(a)), spans(reflect.ValueOf(a[1:]))
	if len(one) == 0 || len(two) == 0 || one[0].end != two[0].end {
		t.Error("spare room is not seen")
	}
}
