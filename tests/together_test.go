package tests

import (
	"fmt"
	"slices"
	"testing"

	"loop.example/ashlar/impl"
)

// Kinds of what is done to a store.
const (
	doAlone = iota
	doBegin
	doAmong
	doKeep
	doBack
)

// deed is one thing that is done to a store.
type deed struct {
	kind int
	id   int
	ask  impl.Ask
}

// outcome is all that a deed tells but the store.
type outcome struct {
	Table impl.Table
	Code  int
	Id    int
	Ok    bool
}

func (d deed) to(s impl.Store) (impl.Store, outcome) {
	var o outcome
	switch d.kind {
	case doAlone:
		s, o.Table, o.Code = impl.StoreAsk(s, d.ask)
	case doBegin:
		s, o.Id, o.Ok = impl.TxBegin(s)
	case doAmong:
		s, o.Table, o.Code = impl.TxAsk(s, d.id, d.ask)
	case doKeep:
		s, o.Code = impl.TxKeep(s, d.id)
	default:
		s, o.Ok = impl.TxBack(s, d.id)
	}
	return s, o
}

// slowlyTo does a deed a second way, by the words of the document alone, to a store that is ok.
func (d deed) slowlyTo(s impl.Store) (impl.Store, outcome) {
	s = tidy(s)
	at := slices.IndexFunc(s.Txs, func(t impl.Tx) bool { return t.Id == d.id })
	if d.kind != doAlone && d.kind != doBegin && at < 0 {
		return s, outcome{Code: map[int]int{doAmong: impl.ErrName, doKeep: impl.ErrName, doBack: 0}[d.kind]}
	}
	switch d.kind {
	case doAlone:
		g, table, code, writes := slowAsk(s.Graph, s.Rules, d.ask)
		if code == 0 && writes && len(s.Done) == impl.DoneMax {
			code = impl.ErrFull
		}
		if code != 0 {
			return s, outcome{Code: code}
		}
		if writes {
			s.Graph, s.State, s.Done = g, s.State+1, append(s.Done, d.ask)
		}
		return s, outcome{Table: table}
	case doBegin:
		if len(s.Txs) == impl.TxMax || s.Next >= impl.NumMax {
			return s, outcome{}
		}
		s.Txs = append(s.Txs, impl.Tx{Id: s.Next, Base: s.State, Graph: s.Graph})
		s.Next++
		return s, outcome{Id: s.Next - 1, Ok: true}
	case doAmong:
		g, table, code, writes := slowAsk(s.Txs[at].Graph, s.Rules, d.ask)
		if code == 0 && writes && len(s.Txs[at].Asks) == impl.DoneMax {
			code = impl.ErrFull
		}
		if code != 0 {
			return s, outcome{Code: code}
		}
		if writes {
			s.Txs[at].Graph, s.Txs[at].Asks = g, append(s.Txs[at].Asks, d.ask)
		}
		return s, outcome{Table: table}
	case doKeep:
		tx := s.Txs[at]
		s.Txs = slices.Concat(s.Txs[:at], s.Txs[at+1:])
		return slowKeep(s, tx)
	}
	s.Txs = slices.Concat(s.Txs[:at], s.Txs[at+1:])
	return s, outcome{Ok: true}
}

// slowKeep keeps what is not in the store any more.
func slowKeep(s impl.Store, tx impl.Tx) (impl.Store, outcome) {
	switch {
	case len(tx.Asks) == 0:
		return s, outcome{}
	case tx.Base != s.State:
		return s, outcome{Code: impl.ErrClash}
	case len(s.Done)+len(tx.Asks) > impl.DoneMax:
		return s, outcome{Code: impl.ErrFull}
	}
	s.Graph, s.State, s.Done = tx.Graph, s.State+1, slices.Concat(s.Done, tx.Asks)
	return s, outcome{}
}

// slowAsk does an Ask to a graph; and says whether it writes.
func slowAsk(g impl.Graph, rules []impl.Rule, a impl.Ask) (impl.Graph, impl.Table, int, bool) {
	q, ok := impl.QueryGet(a.Text)
	met := map[string]int{}
	for _, c := range a.Given {
		ok = ok && impl.NameOk(c.Name) && impl.ValueOk(c.Value) && met[c.Name] == 0
		met[c.Name]++
	}
	if !ok {
		return g, impl.Table{}, impl.ErrForm, false
	}
	g, table, code := slowRun(g, rules, q, a.Given)
	return g, table, code, impl.QueryWrites(q)
}

func walkRules() []impl.Rule {
	return []impl.Rule{{Label: "P", Name: "m"}, {Label: "Q", Name: "n"}}
}

// someAsk is a question, mostly one that goes right.
func someAsk(d *dice) impl.Ask {
	if d.roll(3) == 0 {
		k := speaker{d: d}
		return askOf(k.question(3), spokenGiven()...)
	}
	some := []string{
		"CREATE (a:P {m: $p}) RETURN a.m AS m", "CREATE (:Q {n: 1})-[:K]->(:P)", "CREATE (a), (b)", "MATCH (a) SET a.n = null", "MATCH (a:P) SET a.o = $l", "MATCH (a) DETACH DELETE a", "MATCH (a:Q) DETACH DELETE a RETURN count(*) AS c", "MATCH (a) WITH a AS a LIMIT 3 DETACH DELETE a", "MATCH (a)-[e]->(b) DELETE e",
		"MATCH (a:none) SET a.n = 1", "WHERE false CREATE (a) RETURN 1 AS x", "MATCH (a) RETURN a AS a, a.n AS n", "MATCH (a)-[e]-(b) RETURN count(*) AS c", "MATCH (a) RETURN a.m AS m ORDER BY m DESC",
		"MATCH (a) DELETE a", "CREATE (a {n: $none})", "RETURN (1 + 'x') AS x", "CREATE", "MATCH (a:Q) SET a.n = 1",
	}
	given := spokenGiven()
	if d.roll(20) == 0 {
		given = append(given, given[0])
	}
	return askOf(some[d.roll(len(some))], given...)
}

// someDeed is one that mostly names something that is under way.
func someDeed(d *dice, s impl.Store) deed {
	did := deed{kind: []int{doAlone, doBegin, doBegin, doAmong, doAmong, doAmong, doAmong, doKeep, doBack}[d.roll(9)], id: d.roll(s.Next + 2), ask: someAsk(d)}
	if did.kind == doBack && d.roll(3) > 0 {
		did.kind = doKeep
	}
	if len(s.Txs) > 0 && d.roll(8) > 0 {
		did.id = s.Txs[d.roll(len(s.Txs))].Id
	}
	return did
}

// someStores is stores as they were on the way of some walks.
func someStores(t *testing.T, walks int) []impl.Store {
	t.Helper()
	d := dice(7)
	var all []impl.Store
	for range walks {
		s := newStore(t, walkRules())
		for i := range 40 {
			s, _ = someDeed(&d, s).to(s)
			if i%5 == 4 {
				all = append(all, s)
			}
		}
	}
	return all
}

// All that is done to a store leads to one that is ok, and is what it is a second way.
func TestStoreAsASecondWayDoes(t *testing.T) {
	d, met := dice(5), map[string]int{}
	for walk := range 200 {
		s := newStore(t, walkRules())
		for i := range 60 {
			did := someDeed(&d, s)
			got, told := did.to(s)
			want, wantTold := did.slowlyTo(s)
			if !same(told, wantTold) || !same(got, want) {
				t.Fatalf("walk %d, step %d: %+v\nof %+v\ntells %+v, not %+v\n%+v\nnot %+v", walk, i, did, s, told, wantTold, got, want)
			}
			if !impl.StoreOk(got) {
				t.Fatalf("walk %d, step %d: %+v\nof %+v\nis not ok: %+v", walk, i, did, s, got)
			}
			met[fmt.Sprint(did.kind, " ", told.Code, " ", told.Ok)]++
			s = got
		}
	}
	for _, what := range []string{"0 0 false", "0 1 false", "0 3 false", "0 4 false", "0 6 false", "0 7 false", "0 8 false", "1 0 false", "1 0 true", "2 0 false", "2 3 false", "2 7 false", "2 8 false", "3 0 false", "3 3 false", "3 9 false", "4 0 false", "4 0 true"} {
		if met[what] < 3 {
			t.Errorf("%s came %d times: %v", what, met[what], met)
		}
	}
}

// but is a store with some parts of another one.
func but(s impl.Store, change func(s *impl.Store)) impl.Store {
	s = tidy(s)
	change(&s)
	return s
}

// without is a store without the one at a place of what is under way.
func without(s impl.Store, at int) impl.Store {
	return but(s, func(s *impl.Store) { s.Txs = slices.Delete(s.Txs, at, at+1) })
}

// Promise 50: whoever begins sees the graph as it stands.
func TestPromise50WhoeverBegins(t *testing.T) {
	begun := 0
	for _, s := range append(someStores(t, 20), busyStore(t), impl.Store{}) {
		got, id, ok := impl.TxBegin(s)
		if len(s.Txs) == impl.TxMax {
			if ok || id != 0 || !same(got, s) {
				t.Errorf("one too many is begun: %d %v", id, ok)
			}
			continue
		}
		begun++
		want := but(s, func(w *impl.Store) {
			w.Txs = append(w.Txs, impl.Tx{Id: s.Next, Base: s.State, Graph: s.Graph})
			w.Next++
		})
		if !ok || id != s.Next || !same(got, want) || !impl.StoreOk(got) {
			t.Fatalf("%d %v of %+v: %+v", id, ok, s, got)
		}
		back, ok := impl.TxBack(got, id)
		if !ok || !same(back, but(s, func(w *impl.Store) { w.Next++ })) {
			t.Fatalf("%v: %+v does not lead back to %+v", ok, back, s)
		}
	}
	if begun < 50 {
		t.Error(begun)
	}
}

// Limits of what is under way, and of its numbers.
func TestPromise50Limits(t *testing.T) {
	s := busyStore(t)
	s, _ = mustBegin(t, s)
	if got, id, ok := impl.TxBegin(s); ok || id != 0 || !same(got, s) || len(s.Txs) != impl.TxMax {
		t.Errorf("%d %v %d", id, ok, len(s.Txs))
	}
	s, _ = impl.TxBack(s, 2)
	if got, id, ok := impl.TxBegin(s); !ok || id != 5 || len(got.Txs) != impl.TxMax || got.Txs[3].Id != 5 {
		t.Errorf("%d %v", id, ok)
	}
	last := impl.Store{Next: impl.NumMax - 1}
	got, id, ok := impl.TxBegin(last)
	if !ok || id != impl.NumMax-1 || got.Next != impl.NumMax || !impl.StoreOk(got) {
		t.Errorf("%d %v", id, ok)
	}
	if got, ok := impl.TxBack(got, id); !ok || got.Next != impl.NumMax {
		t.Errorf("%v", ok)
	}
	for _, full := range []impl.Store{got, {Next: impl.NumMax}} {
		if after, id, ok := impl.TxBegin(full); ok || id != 0 || !same(after, full) {
			t.Errorf("%d %v", id, ok)
		}
	}
}

// Promise 51: what is asked among others is Run of its own graph, and is seen by those alone.
func TestPromise51AskedAmongOthers(t *testing.T) {
	d, wrote, read := dice(3), 0, 0
	for _, s := range append(someStores(t, 16), busyStore(t)) {
		for at, tx := range s.Txs {
			a := someAsk(&d)
			got, table, code := impl.TxAsk(s, tx.Id, a)
			q, ok := impl.QueryGet(a.Text)
			if !ok {
				continue
			}
			g, wantTable, wantCode := impl.Run(tx.Graph, s.Rules, q, a.Given)
			want := but(s, func(w *impl.Store) {
				if wantCode == 0 && impl.QueryWrites(q) {
					wrote++
					w.Txs[at].Graph, w.Txs[at].Asks = g, append(w.Txs[at].Asks, a)
				} else {
					read++
				}
			})
			if code != wantCode || !same(table, wantTable) || !same(got, want) {
				t.Fatalf("%s of %+v: %d, not %d; %+v, not %+v", a.Text, s, code, wantCode, table, wantTable)
			}
		}
	}
	if wrote < 50 || read < 50 {
		t.Error(wrote, read)
	}
}

// Promise 52: what is kept is the store's graph then, unless somebody else was first; it goes, whatever is told.
func TestPromise52WhatIsKept(t *testing.T) {
	codes, readers := map[int]int{}, 0
	for _, s := range append(someStores(t, 30), busyStore(t)) {
		for at, tx := range s.Txs {
			want, code := without(s, at), 0
			switch {
			case len(tx.Asks) == 0:
				readers++
			case tx.Base != s.State:
				code = impl.ErrClash
			default:
				want.Graph, want.State, want.Done = tx.Graph, s.State+1, append(want.Done, tx.Asks...)
			}
			got, told := impl.TxKeep(s, tx.Id)
			if told != code || !same(got, want) || !impl.StoreOk(got) {
				t.Fatalf("%d of %+v: %d, not %d", tx.Id, s, told, code)
			}
			if again, told := impl.TxKeep(got, tx.Id); told != impl.ErrName || !same(again, got) {
				t.Errorf("it is not gone: %d", told)
			}
			codes[told]++
		}
	}
	if codes[0] < 50 || codes[impl.ErrClash] < 20 || readers < 20 {
		t.Error(codes, readers)
	}
}

// Who only asked is never refused, and changes nothing, whoever kept what meanwhile.
func TestPromise52WhoOnlyAsked(t *testing.T) {
	s, id := mustBegin(t, newStore(t, nameRule()))
	s = mustTxAsk(t, s, id, askOf("MATCH (a) RETURN a AS a"))
	s = mustAsk(t, s, askOf("CREATE (:P)"))
	if got, code := impl.TxKeep(s, id); code != 0 || !same(got, without(s, 0)) {
		t.Errorf("%d %+v", code, got)
	}
	if _, _, code := impl.TxAsk(s, id, askOf("CREATE")); code != impl.ErrForm {
		t.Error(code)
	}
	failed, _, _ := impl.TxAsk(s, id, askOf("CREATE (a {n: $none})"))
	if got, code := impl.TxKeep(failed, id); code != 0 || !same(got, without(s, 0)) {
		t.Errorf("who only tried to write: %d %+v", code, got)
	}
	wrote := mustTxAsk(t, s, id, askOf("MATCH (a:none) SET a.n = 1"))
	if got, code := impl.TxKeep(wrote, id); code != impl.ErrClash || !same(got, without(s, 0)) {
		t.Errorf("who wrote, and changed nothing: %d %+v", code, got)
	}
	full, reader := mustBegin(t, fullStore(t, impl.DoneMax))
	if got, code := impl.TxKeep(full, reader); code != 0 || !same(got, without(full, 0)) {
		t.Errorf("with all done that may be: %d", code)
	}
}

// Limits of what is kept: met exactly it is kept, one more is refused, and it goes; a clash is told first.
func TestPromise52Limits(t *testing.T) {
	for _, asks := range []int{1, 7, impl.DoneMax} {
		s := fullTx(t, impl.DoneMax-asks, asks)
		got, code := impl.TxKeep(s, 0)
		if code != 0 || len(got.Done) != impl.DoneMax || got.State != impl.DoneMax-asks+1 || len(got.Txs) != 0 || !impl.StoreOk(got) {
			t.Errorf("%d: %d", asks, code)
		}
	}
	for _, asks := range []int{1, 7, impl.DoneMax} {
		s := fullTx(t, impl.DoneMax-asks+1, asks)
		if got, code := impl.TxKeep(s, 0); code != impl.ErrFull || !same(got, without(s, 0)) || !impl.StoreOk(got) {
			t.Errorf("%d: %d", asks, code)
		}
	}
	s := mustAsk(t, fullTx(t, impl.DoneMax-1, 2), askOf("CREATE (a)"))
	if got, code := impl.TxKeep(s, 0); code != impl.ErrClash || !same(got, without(s, 0)) {
		t.Errorf("too late, and too many: %d", code)
	}
}

// Promise 53: whoever keeps second, having begun ahead of the first, is refused; whoever begins behind the first is not.
func TestPromise53WhoeverKeepsSecond(t *testing.T) {
	writes := []string{"CREATE (a)", "MATCH (a) SET a.k = 1", "MATCH (a:none) SET a.n = 1", "MATCH (a) DETACH DELETE a", "WHERE false CREATE (a)"}
	for _, begin := range append(someStores(t, 2), newStore(t, nil)) {
		for _, tx := range begin.Txs {
			begin, _ = impl.TxBack(begin, tx.Id)
		}
		for i, first := range writes {
			second := writes[(i*2+1)%len(writes)]
			s, a := mustBegin(t, begin)
			s, b := mustBegin(t, s)
			s, c := mustBegin(t, s)
			s, _, codeA := impl.TxAsk(s, a, askOf(first))
			s, _, codeB := impl.TxAsk(s, b, askOf(second))
			if codeA != 0 || codeB != 0 {
				continue
			}
			one := mustKeep(t, s, a)
			if got, code := impl.TxKeep(one, b); code != impl.ErrClash || !same(got, without(one, 0)) {
				t.Errorf("%s, then %s: %d", first, second, code)
			}
			two := mustKeep(t, s, b)
			if got, code := impl.TxKeep(two, a); code != impl.ErrClash || !same(got, without(two, 0)) {
				t.Errorf("%s, then %s: %d", second, first, code)
			}
			alone := mustAsk(t, s, askOf("MATCH (a:none) SET a.n = 1"))
			if got, code := impl.TxKeep(alone, a); code != impl.ErrClash || !same(got, without(alone, 0)) {
				t.Errorf("one by itself, then %s: %d", first, code)
			}
			mustKeep(t, mustKeep(t, s, c), a)
			back, _ := impl.TxBack(s, a)
			mustKeep(t, back, b)
			next, e := mustBegin(t, one)
			mustKeep(t, mustTxAsk(t, next, e, askOf("MATCH (a:none) SET a.n = 1")), e)
		}
	}
}

// Promise 54: whoever began sees nothing of what others keep.
func TestPromise54NothingIsSeenOfOthers(t *testing.T) {
	ask := askOf("MATCH (a) RETURN a AS a, a.n AS n, a.k AS k")
	changes, seen := []string{"CREATE (a {k: 9})", "MATCH (a) SET a.k = 7", "MATCH (a) DETACH DELETE a"}, 0
	for _, s := range append(someStores(t, 10), busyStore(t)) {
		for _, tx := range s.Txs {
			_, before, _ := impl.TxAsk(s, tx.Id, ask)
			for _, text := range changes {
				after, _, code := impl.StoreAsk(s, askOf(text))
				if code != 0 {
					continue
				}
				seen++
				if _, told, code := impl.TxAsk(after, tx.Id, ask); code != 0 || !same(told, before) || !same(after.Txs, s.Txs) {
					t.Errorf("behind %s: %+v, not %+v", text, told, before)
				}
			}
			for _, other := range s.Txs {
				kept, _ := impl.TxKeep(s, other.Id)
				if _, told, code := impl.TxAsk(kept, tx.Id, ask); other.Id != tx.Id && (code != 0 || !same(told, before)) {
					t.Errorf("behind %d: %+v, not %+v", other.Id, told, before)
				}
			}
		}
	}
	if seen < 50 {
		t.Error(seen)
	}
}

// Promise 55: many questions together are as one behind the other.
func TestPromise55TogetherIsOneBehindTheOther(t *testing.T) {
	d, both, failed := dice(13), 0, 0
	for _, s := range someStores(t, 24) {
		together, id, ok := impl.TxBegin(s)
		if !ok {
			continue
		}
		alone, wrote := s, 0
		for range 3 {
			a := someAsk(&d)
			var told, toldAlone impl.Table
			var code, codeAlone int
			together, told, code = impl.TxAsk(together, id, a)
			alone, toldAlone, codeAlone = impl.StoreAsk(alone, a)
			if code != codeAlone || !same(told, toldAlone) {
				t.Fatalf("%s: %d %+v together, %d %+v alone", a.Text, code, told, codeAlone, toldAlone)
			}
			if q, _ := impl.QueryGet(a.Text); code == 0 && impl.QueryWrites(q) {
				wrote++
			}
			if code != 0 {
				failed++
			}
		}
		kept, code := impl.TxKeep(together, id)
		if code != 0 || !same(kept.Graph, alone.Graph) || !same(kept.Done, alone.Done) || kept.State != s.State+min(wrote, 1) || alone.State != s.State+wrote || !same(kept.Txs, s.Txs) {
			t.Fatalf("%d: %+v, not %+v", code, kept, alone)
		}
		if wrote > 1 {
			both++
		}
	}
	if both < 20 || failed < 10 {
		t.Error(both, failed)
	}
}

// Promise 56: what is given up was never there.
func TestPromise56WhatIsGivenUp(t *testing.T) {
	for _, s := range append(someStores(t, 10), busyStore(t)) {
		for at, tx := range s.Txs {
			got, ok := impl.TxBack(s, tx.Id)
			if !ok || !same(got, without(s, at)) || !impl.StoreOk(got) {
				t.Fatalf("%v %+v", ok, got)
			}
			if again, ok := impl.TxBack(got, tx.Id); ok || !same(again, got) {
				t.Errorf("it is not gone: %v", ok)
			}
			if _, _, code := impl.TxAsk(got, tx.Id, askOf("RETURN 1 AS x")); code != impl.ErrName {
				t.Errorf("it is not gone: %d", code)
			}
		}
	}
}

// Promise 57: all that was kept is as if it was done one behind the other.
func TestPromise57AllThatWasKept(t *testing.T) {
	most, kept := 0, 0
	for _, s := range append(someStores(t, 30), busyStore(t)) {
		again := newStore(t, s.Rules)
		for _, a := range s.Done {
			again = mustAsk(t, again, a)
		}
		want := impl.Store{Graph: s.Graph, Rules: s.Rules, State: len(s.Done), Done: s.Done}
		if !same(again, want) {
			t.Fatalf("%+v, not %+v", again, want)
		}
		most = max(most, len(s.Done))
		if s.State < len(s.Done) {
			kept++
		}
	}
	if most < 8 || kept < 20 {
		t.Error(most, kept)
	}
}
