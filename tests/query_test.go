package tests

import (
	"math"
	"reflect"
	"slices"
	"strings"
	"testing"

	"loop.example/ashlar/impl"
)

// bare is a clause of a kind, with nothing else.
func bare(kind int) impl.Clause {
	return impl.Clause{Kind: kind, Skip: -1, Limit: -1}
}

func patterns(kind int, paths ...impl.Path) impl.Clause {
	c := bare(kind)
	c.Paths = paths
	return c
}

func match(paths ...impl.Path) impl.Clause    { return patterns(impl.ClauseMatch, paths...) }
func optional(paths ...impl.Path) impl.Clause { return patterns(impl.ClauseOptional, paths...) }
func create(paths ...impl.Path) impl.Clause   { return patterns(impl.ClauseCreate, paths...) }

func path(s impl.Spot, hops ...impl.Hop) impl.Path { return impl.Path{Spot: s, Hops: hops} }
func hop(name string, kind string, way int, s impl.Spot) impl.Hop {
	return impl.Hop{Name: name, Kind: kind, Way: way, Spot: s}
}
func spot(name string, label string, props ...impl.Pat) impl.Spot {
	return impl.Spot{Name: name, Label: label, Props: props}
}
func pat(name string, e impl.Expr) impl.Pat { return impl.Pat{Name: name, Expr: e} }

func where(e impl.Expr) impl.Clause {
	c := bare(impl.ClauseWhere)
	c.Expr = e
	return c
}

func unwind(e impl.Expr, name string) impl.Clause {
	c := bare(impl.ClauseUnwind)
	c.Expr, c.Name = e, name
	return c
}

func columns(kind int, items ...impl.Item) impl.Clause {
	c := bare(kind)
	c.Items = items
	return c
}

func with(items ...impl.Item) impl.Clause     { return columns(impl.ClauseWith, items...) }
func giveBack(items ...impl.Item) impl.Clause { return columns(impl.ClauseReturn, items...) }

func item(e impl.Expr, name string) impl.Item { return impl.Item{Expr: e, Name: name} }

func set(tos ...impl.To) impl.Clause {
	c := bare(impl.ClauseSet)
	c.Tos = tos
	return c
}

func to(name string, key string, e impl.Expr) impl.To { return impl.To{Name: name, Key: key, Expr: e} }

func remove(names ...string) impl.Clause {
	c := bare(impl.ClauseDelete)
	c.Names = names
	return c
}

// one is the number 1 as an expression, end a RETURN that may stand behind anything.
var one = impl.Expr{Kind: impl.ExprValue, Value: impl.Value{Kind: impl.IsNum, Num: 1}}

func end() impl.Clause { return giveBack(item(one, "end")) }

// clauses is one clause of each kind, each with all that it may have.
func clauses() []impl.Clause {
	full := path(spot("a", "P", pat("n", one), pat("m", one)), hop("e", "K", 1, spot("b", "Q", pat("n", one))))
	all := []impl.Clause{match(full), optional(full), where(one), unwind(one, "x"), with(item(one, "x"), item(one, "y")), end(), create(full), set(to("a", "n", one)), remove("a", "e")}
	for _, i := range []int{4, 5} {
		all[i].Distinct, all[i].Orders, all[i].Skip, all[i].Limit = true, []impl.Order{{Name: all[i].Items[0].Name, Down: true}}, 3, 4
	}
	all[8].Detach = true
	return all
}

// hasField says whether a clause of a kind may have a field.
func hasField(kind int, field string) bool {
	fields := map[int]string{
		impl.ClauseMatch: "Paths", impl.ClauseOptional: "Paths", impl.ClauseCreate: "Paths", impl.ClauseWhere: "Expr", impl.ClauseUnwind: "Expr Name",
		impl.ClauseWith: "Items Distinct Orders Skip Limit", impl.ClauseReturn: "Items Distinct Orders Skip Limit", impl.ClauseSet: "Tos", impl.ClauseDelete: "Names Detach",
	}
	return slices.Contains(strings.Fields(fields[kind]), field)
}

// codeOf is what is wrong with a question of a clause: names that it needs are made ahead, an end is put behind.
func codeOf(c impl.Clause) int {
	q := []impl.Clause{c}
	if c.Kind == impl.ClauseSet || c.Kind == impl.ClauseDelete {
		q = []impl.Clause{match(path(spot("a", ""), hop("e", "", 0, spot("b", "")))), c}
	}
	if c.Kind != impl.ClauseReturn {
		q = append(q, end())
	}
	return impl.QueryCheck(q)
}

func wantCode(t *testing.T, what string, want int, c impl.Clause) {
	t.Helper()
	if got := codeOf(c); got != want {
		t.Errorf("%s: %d, not %d", what, got, want)
	}
}

func TestQueryFormAllElseIsNothing(t *testing.T) {
	for _, c := range clauses() {
		wantCode(t, "as it is", impl.QueryFine, c)
		for _, other := range clauses() {
			from, into := reflect.ValueOf(other), reflect.ValueOf(&c).Elem()
			for i := range from.NumField() {
				field := from.Type().Field(i).Name
				if field == "Kind" || hasField(c.Kind, field) || !hasField(other.Kind, field) {
					continue
				}
				kept := reflect.ValueOf(c).Field(i)
				into.Field(i).Set(from.Field(i))
				wantCode(t, field, impl.QueryForm, c)
				into.Field(i).Set(kept)
			}
		}
		if !hasField(c.Kind, "Skip") {
			for _, n := range []int{0, 1, -2} {
				spoilt := c
				spoilt.Skip = n
				wantCode(t, "Skip", impl.QueryForm, spoilt)
				spoilt = c
				spoilt.Limit = n
				wantCode(t, "Limit", impl.QueryForm, spoilt)
			}
		}
		for _, e := range []impl.Expr{{Name: "a"}, {Key: "a"}, {Value: num(1)}, {Value: impl.Value{Num: 1}}, {Parts: []impl.Expr{one}}, {Kind: 99}} {
			spoilt := c
			spoilt.Expr = e
			wantCode(t, "Expr", impl.QueryForm, spoilt)
		}
	}
}

func TestQueryFormOfNothing(t *testing.T) {
	for i, q := range [][]impl.Clause{nil, {}, {{}}, {end(), {}}, {bare(0)}, {bare(10)}, {bare(-1)}, {bare(math.MaxInt)}, {bare(impl.ClauseMatch), end()}, {bare(impl.ClauseReturn)}, {bare(impl.ClauseCreate)}, {bare(impl.ClauseSet)}, {bare(impl.ClauseDelete)}, {bare(impl.ClauseWhere), end()}, {bare(impl.ClauseUnwind), end()}, {bare(impl.ClauseWith), end()}} {
		if got := impl.QueryCheck(q); got != impl.QueryForm {
			t.Errorf("%d: %d", i, got)
		}
	}
}

// Each limit is met exactly, and one more is refused.
func TestQueryFormMeetsLimits(t *testing.T) {
	for n := range impl.ClauseMax + 2 {
		q := append(slices.Repeat([]impl.Clause{where(one)}, n), end())
		if got, want := impl.QueryCheck(q), map[bool]int{true: impl.QueryFine, false: impl.QueryForm}[n+1 <= impl.ClauseMax]; got != want {
			t.Errorf("%d clauses: %d", n+1, got)
		}
	}
	code := func(fine bool) int {
		if fine {
			return impl.QueryFine
		}
		return impl.QueryForm
	}
	letters := strings.Split("abcdefghij", "")
	for n := range 8 {
		var pats []impl.Pat
		var items []impl.Item
		var orders []impl.Order
		for i := range n {
			pats, items, orders = append(pats, pat(letters[i], one)), append(items, item(one, letters[i])), append(orders, impl.Order{Name: "a", Down: i%2 == 0})
		}
		for _, kind := range []int{impl.ClauseMatch, impl.ClauseOptional, impl.ClauseCreate} {
			some := path(spot("", ""))
			wantCode(t, "paths", code(1 <= n && n <= impl.PathMax), patterns(kind, slices.Repeat([]impl.Path{some}, n)...))
			wantCode(t, "hops", code(n <= impl.HopMax), patterns(kind, path(spot("", ""), slices.Repeat([]impl.Hop{hop("", "K", 1, spot("", ""))}, n)...)))
			wantCode(t, "pats", code(n <= impl.PropMax), patterns(kind, path(spot("", "", pats...))))
			wantCode(t, "pats of a hop", code(n <= impl.PropMax), patterns(kind, some, path(spot("", ""), hop("", "K", 1, spot("", "", pats...)))))
		}
		for _, kind := range []int{impl.ClauseWith, impl.ClauseReturn} {
			wantCode(t, "items", code(1 <= n && n <= impl.ItemMax), columns(kind, items...))
			ordered := columns(kind, item(one, "a"))
			ordered.Orders = orders
			wantCode(t, "orders", code(n <= impl.ItemMax), ordered)
		}
		wantCode(t, "tos", code(1 <= n && n <= impl.ItemMax), set(slices.Repeat([]impl.To{to("a", "n", one)}, n)...))
		wantCode(t, "names", code(1 <= n && n <= impl.ItemMax), remove(slices.Repeat([]string{"a"}, n)...))
	}
	for _, n := range []int{math.MinInt, -2, -1, 0, 1, impl.SkipMax, impl.SkipMax + 1, math.MaxInt} {
		for _, kind := range []int{impl.ClauseWith, impl.ClauseReturn} {
			c := columns(kind, item(one, "a"))
			c.Skip = n
			wantCode(t, "skip", code(-1 <= n && n <= impl.SkipMax), c)
			c.Skip, c.Limit = -1, n
			wantCode(t, "limit", code(-1 <= n && n <= impl.SkipMax), c)
		}
	}
	for _, n := range []int{math.MinInt, -2, -1, 0, 1, 2, math.MaxInt} {
		wantCode(t, "way", code(-1 <= n && n <= 1), match(path(spot("", ""), hop("", "", n, spot("", "")))))
	}
}

func TestQueryFormOfNames(t *testing.T) {
	for _, s := range noNames {
		free := impl.QueryForm
		if s == "" {
			free = impl.QueryFine
		}
		for _, kind := range []int{impl.ClauseMatch, impl.ClauseOptional, impl.ClauseCreate} {
			wantCode(t, "spot's name", free, patterns(kind, path(spot(s, "P"))))
			wantCode(t, "label", free, patterns(kind, path(spot("a", s))))
			wantCode(t, "hop's name", free, patterns(kind, path(spot("a", ""), hop(s, "K", 1, spot("", "")))))
			wantCode(t, "hop's spot", free, patterns(kind, path(spot("a", ""), hop("", "K", 1, spot(s, "")))))
			wantCode(t, "hop's label", free, patterns(kind, path(spot("a", ""), hop("", "K", 1, spot("", s)))))
			wantCode(t, "pat", impl.QueryForm, patterns(kind, path(spot("a", "", pat(s, one)))))
		}
		wantCode(t, "kind", free, match(path(spot("a", ""), hop("e", s, 1, spot("", "")))))
		wantCode(t, "unwind", impl.QueryForm, unwind(one, s))
		wantCode(t, "item", impl.QueryForm, giveBack(item(one, s)))
		wantCode(t, "to", impl.QueryForm, set(to(s, "n", one)))
		wantCode(t, "key", impl.QueryForm, set(to("a", s, one)))
		wantCode(t, "delete", impl.QueryForm, remove("a", s))
		c := with(item(one, "a"))
		c.Orders = []impl.Order{{Name: s}}
		wantCode(t, "order", impl.QueryForm, c)
	}
	twice := with(item(one, "a"), item(one, "b"), item(one, "a"))
	wantCode(t, "items twice", impl.QueryForm, twice)
	wantCode(t, "pats twice", impl.QueryForm, match(path(spot("", "", pat("a", one), pat("b", one), pat("a", one)))))
	wantCode(t, "pats out of order", impl.QueryFine, match(path(spot("", "", pat("b", one), pat("a", one)))))
	other := with(item(one, "a"), item(one, "b"))
	other.Orders = []impl.Order{{Name: "b"}, {Name: "b", Down: true}, {Name: "c"}}
	wantCode(t, "order by another name", impl.QueryForm, other)
}

func TestQueryFormOfExpressions(t *testing.T) {
	for _, e := range wrongExprs() {
		wantCode(t, "match", impl.QueryForm, match(path(spot("", "", pat("n", e)))))
		wantCode(t, "hop", impl.QueryForm, create(path(spot("", ""), hop("", "K", 1, spot("", "", pat("n", e))))))
		wantCode(t, "where", impl.QueryForm, where(e))
		wantCode(t, "unwind", impl.QueryForm, unwind(e, "x"))
		wantCode(t, "with", impl.QueryForm, with(item(one, "a"), item(e, "b")))
		wantCode(t, "return", impl.QueryForm, giveBack(item(e, "b")))
		wantCode(t, "set", impl.QueryForm, set(to("a", "n", e)))
	}
}

type codeCase struct {
	what string
	want int
	q    []impl.Clause
}

func checkCodes(t *testing.T, cases []codeCase) {
	t.Helper()
	for _, c := range cases {
		if got := impl.QueryCheck(c.q); got != c.want {
			t.Errorf("%s: %d, not %d", c.what, got, c.want)
		}
		if c.want != impl.QueryFine && (impl.QueryPut(c.q) != "" || len(impl.QueryGiven(c.q)) != 0 || impl.QueryWrites(c.q) || len(impl.QueryNames(c.q)) != 0) {
			t.Errorf("%s: more is told of it", c.what)
		}
	}
}

func TestQueryPlaceOfClauses(t *testing.T) {
	a, none := match(path(spot("a", ""))), where(variable("none"))
	checkCodes(t, []codeCase{
		{"ends with MATCH", impl.QueryPlace, []impl.Clause{a}},
		{"ends with OPTIONAL MATCH", impl.QueryPlace, []impl.Clause{optional(path(spot("a", "")))}},
		{"ends with WHERE", impl.QueryPlace, []impl.Clause{where(one)}},
		{"ends with UNWIND", impl.QueryPlace, []impl.Clause{unwind(one, "x")}},
		{"ends with WITH", impl.QueryPlace, []impl.Clause{with(item(one, "x"))}},
		{"ends with RETURN", impl.QueryFine, []impl.Clause{end()}},
		{"ends with CREATE", impl.QueryFine, []impl.Clause{create(path(spot("", "")))}},
		{"ends with SET", impl.QueryFine, []impl.Clause{a, set(to("a", "n", one))}},
		{"ends with DELETE", impl.QueryFine, []impl.Clause{a, remove("a")}},
		{"RETURN twice", impl.QueryPlace, []impl.Clause{end(), end()}},
		{"RETURN ahead of CREATE", impl.QueryPlace, []impl.Clause{end(), create(path(spot("", "")))}},
		{"RETURN within", impl.QueryPlace, []impl.Clause{a, end(), a, end()}},
		{"the end is asked first", impl.QueryPlace, []impl.Clause{none, a}},
		{"RETURN within is asked first", impl.QueryPlace, []impl.Clause{none, end(), end()}},
		{"the form is asked first of all", impl.QueryForm, []impl.Clause{none, end(), bare(impl.ClauseMatch)}},
	})
}

func TestQueryPlaceOfCountAndSum(t *testing.T) {
	a := match(path(spot("a", "")))
	sum := func(e impl.Expr) impl.Expr { return ofParts(impl.ExprSum, e) }
	count, n := impl.Expr{Kind: impl.ExprCount}, impl.Expr{Kind: impl.ExprProp, Name: "a", Key: "n"}
	checkCodes(t, []codeCase{
		{"count as a whole", impl.QueryFine, []impl.Clause{a, giveBack(item(count, "c"))}},
		{"sum as a whole", impl.QueryFine, []impl.Clause{a, with(item(sum(n), "s"), item(count, "c"), item(n, "n")), end()}},
		{"sum of more", impl.QueryFine, []impl.Clause{a, giveBack(item(sum(ofParts(impl.ExprAdd, n, one)), "s"))}},
		{"sum of a name that is not there", impl.QueryNone, []impl.Clause{a, giveBack(item(sum(variable("b")), "s"))}},
	})
	for _, e := range []impl.Expr{count, sum(n), ofParts(impl.ExprNot, count), ofParts(impl.ExprLess, one, sum(n)), ofParts(impl.ExprAnd, ofParts(impl.ExprNull, count), one), ofParts(impl.ExprEqual, variable("none"), count)} {
		checkCodes(t, []codeCase{
			{"MATCH", impl.QueryPlace, []impl.Clause{a, match(path(spot("", "", pat("n", e)))), end()}},
			{"OPTIONAL MATCH", impl.QueryPlace, []impl.Clause{a, optional(path(spot("", ""), hop("", "", 0, spot("", "", pat("n", e))))), end()}},
			{"CREATE", impl.QueryPlace, []impl.Clause{a, create(path(spot("", "", pat("n", e))))}},
			{"WHERE", impl.QueryPlace, []impl.Clause{a, where(e), end()}},
			{"UNWIND", impl.QueryPlace, []impl.Clause{a, unwind(e, "x"), end()}},
			{"SET", impl.QueryPlace, []impl.Clause{a, set(to("a", "n", e))}},
			{"sum", impl.QueryPlace, []impl.Clause{a, giveBack(item(sum(e), "s"))}},
			{"within", impl.QueryPlace, []impl.Clause{a, giveBack(item(ofParts(impl.ExprAdd, e, one), "s"))}},
			{"within, WITH", impl.QueryPlace, []impl.Clause{a, with(item(one, "o"), item(ofParts(impl.ExprNot, e), "s")), end()}},
		})
	}
}

func TestQueryNone(t *testing.T) {
	a, b, n := match(path(spot("a", ""))), variable("b"), impl.Expr{Kind: impl.ExprProp, Name: "b", Key: "n"}
	for _, e := range []impl.Expr{b, n, ofParts(impl.ExprEqual, variable("a"), b), ofParts(impl.ExprNot, ofParts(impl.ExprNull, n))} {
		checkCodes(t, []codeCase{
			{"MATCH", impl.QueryNone, []impl.Clause{a, match(path(spot("c", "", pat("n", e)))), end()}},
			{"OPTIONAL MATCH", impl.QueryNone, []impl.Clause{a, optional(path(spot("", ""), hop("", "", 0, spot("", "", pat("n", e))))), end()}},
			{"CREATE", impl.QueryNone, []impl.Clause{a, create(path(spot("", "", pat("n", e))))}},
			{"WHERE", impl.QueryNone, []impl.Clause{a, where(e), end()}},
			{"UNWIND", impl.QueryNone, []impl.Clause{a, unwind(e, "b"), end()}},
			{"WITH", impl.QueryNone, []impl.Clause{a, with(item(one, "b"), item(e, "c")), end()}},
			{"RETURN", impl.QueryNone, []impl.Clause{a, giveBack(item(e, "b"))}},
			{"SET", impl.QueryNone, []impl.Clause{a, set(to("a", "n", e))}},
			{"a spot's own name", impl.QueryNone, []impl.Clause{a, match(path(spot("b", "", pat("n", e)))), end()}},
			{"a spot's own name, CREATE", impl.QueryNone, []impl.Clause{a, create(path(spot("b", "", pat("n", e))))}},
			{"a name further on", impl.QueryNone, []impl.Clause{a, match(path(spot("c", "", pat("n", e)), hop("", "", 0, spot("b", "")))), end()}},
			{"behind WITH", impl.QueryNone, []impl.Clause{a, match(path(spot("b", ""))), with(item(variable("a"), "a")), where(e), end()}},
			{"behind WITH, by its old name", impl.QueryNone, []impl.Clause{a, match(path(spot("b", ""))), with(item(b, "a")), where(e), end()}},
			{"behind WITH", impl.QueryFine, []impl.Clause{a, with(item(variable("a"), "b"), item(one, "a")), where(e), end()}},
			{"a spot's name", impl.QueryFine, []impl.Clause{a, match(path(spot("b", ""))), where(e), end()}},
			{"a spot's name, in the same path", impl.QueryFine, []impl.Clause{a, match(path(spot("b", ""), hop("", "", 0, spot("", "", pat("n", e))))), end()}},
			{"a spot's name, in the next path", impl.QueryFine, []impl.Clause{a, match(path(spot("b", "")), path(spot("", "", pat("n", e)))), end()}},
			{"a hop's name", impl.QueryFine, []impl.Clause{a, optional(path(spot("", ""), hop("b", "", 0, spot("", "")))), where(e), end()}},
			{"a hop's name, in its spot", impl.QueryFine, []impl.Clause{a, match(path(spot("", ""), hop("b", "", 0, spot("", "", pat("n", e))))), end()}},
			{"UNWIND's name", impl.QueryFine, []impl.Clause{a, unwind(one, "b"), where(e), end()}},
			{"CREATE's names", impl.QueryFine, []impl.Clause{a, create(path(spot("b", ""))), where(e), end()}},
			{"CREATE's names, of a hop", impl.QueryFine, []impl.Clause{a, create(path(spot("", ""), hop("b", "K", -1, spot("", "")))), giveBack(item(e, "b"))}},
			{"names that are spots again", impl.QueryFine, []impl.Clause{a, match(path(spot("b", ""))), match(path(spot("b", "P", pat("n", e)))), end()}},
		})
	}
	checkCodes(t, []codeCase{
		{"SET of no name", impl.QueryNone, []impl.Clause{a, set(to("a", "n", one), to("b", "n", one))}},
		{"DELETE of no name", impl.QueryNone, []impl.Clause{a, remove("a", "b")}},
		{"DELETE at first", impl.QueryNone, []impl.Clause{remove("a")}},
		{"a given name is none of these", impl.QueryNone, []impl.Clause{where(impl.Expr{Kind: impl.ExprParam, Name: "b"}), giveBack(item(b, "b"))}},
		{"a label is no name", impl.QueryNone, []impl.Clause{match(path(spot("", "b"), hop("", "b", 1, spot("", "", pat("b", one))))), giveBack(item(b, "b"))}},
		{"an item's name is not there for the next", impl.QueryNone, []impl.Clause{giveBack(item(one, "b"), item(b, "c"))}},
	})
}

func TestQueryOfCreate(t *testing.T) {
	a := match(path(spot("a", "")))
	checkCodes(t, []codeCase{
		{"a hop without a kind", impl.QueryPlace, []impl.Clause{create(path(spot("", ""), hop("e", "", 1, spot("", ""))))}},
		{"a hop without a way", impl.QueryPlace, []impl.Clause{create(path(spot("", ""), hop("e", "K", 0, spot("", ""))))}},
		{"the second hop without a way", impl.QueryPlace, []impl.Clause{create(path(spot("", ""), hop("e", "K", -1, spot("", "")), hop("", "K", 0, spot("", ""))))}},
		{"both in MATCH", impl.QueryFine, []impl.Clause{match(path(spot("", ""), hop("e", "", 0, spot("", "")))), end()}},
		{"a spot that is there", impl.QueryFine, []impl.Clause{a, create(path(spot("a", ""), hop("", "K", 1, spot("a", ""))))}},
		{"with a label", impl.QueryTwice, []impl.Clause{a, create(path(spot("a", "P")))}},
		{"with props", impl.QueryTwice, []impl.Clause{a, create(path(spot("a", "", pat("n", one))))}},
		{"of a hop, with a label", impl.QueryTwice, []impl.Clause{a, create(path(spot("", ""), hop("", "K", 1, spot("a", "P"))))}},
		{"made in the same path", impl.QueryTwice, []impl.Clause{create(path(spot("a", "P"), hop("", "K", 1, spot("a", "P"))))}},
		{"made in the path ahead", impl.QueryTwice, []impl.Clause{create(path(spot("a", "P")), path(spot("a", "", pat("n", one))))}},
		{"made in the path ahead, as it is", impl.QueryFine, []impl.Clause{create(path(spot("a", "P")), path(spot("a", "")))}},
		{"with a label in MATCH", impl.QueryFine, []impl.Clause{a, match(path(spot("a", "P", pat("n", one)), hop("", "", 0, spot("a", "Q")))), end()}},
		{"a name that WITH left out", impl.QueryFine, []impl.Clause{a, with(item(one, "b")), create(path(spot("a", "P")))}},
		{"no name, with a label, twice", impl.QueryFine, []impl.Clause{create(path(spot("", "P", pat("n", one)), hop("", "K", 1, spot("", "P"))))}},
		{"a hop's name as its spot's, with a label", impl.QueryTwice, []impl.Clause{create(path(spot("", ""), hop("e", "K", 1, spot("e", "P"))))}},
	})
}

func TestQueryTwice(t *testing.T) {
	a := match(path(spot("a", ""), hop("e", "", 0, spot("b", ""))))
	for _, name := range []string{"a", "b", "e"} {
		checkCodes(t, []codeCase{
			{"a hop in MATCH", impl.QueryTwice, []impl.Clause{a, match(path(spot("", ""), hop(name, "", 0, spot("", "")))), end()}},
			{"a hop in OPTIONAL MATCH", impl.QueryTwice, []impl.Clause{a, optional(path(spot("", "")), path(spot("", ""), hop(name, "", 0, spot("", "")))), end()}},
			{"a hop in CREATE", impl.QueryTwice, []impl.Clause{a, create(path(spot("", ""), hop(name, "K", 1, spot("", ""))))}},
			{"UNWIND", impl.QueryTwice, []impl.Clause{a, unwind(one, name), end()}},
			{"UNWIND behind WITH", impl.QueryFine, []impl.Clause{a, with(item(one, "o")), unwind(one, name), end()}},
			{"a hop behind WITH", impl.QueryFine, []impl.Clause{a, with(item(one, "o")), match(path(spot("", ""), hop(name, "", 0, spot("", "")))), end()}},
			{"a hop behind WITH that leaves the name", impl.QueryTwice, []impl.Clause{a, with(item(one, name)), match(path(spot("", ""), hop(name, "", 0, spot("", "")))), end()}},
			{"an item", impl.QueryFine, []impl.Clause{a, giveBack(item(variable("a"), name))}},
			{"a spot", impl.QueryFine, []impl.Clause{a, match(path(spot(name, ""))), end()}},
		})
	}
	checkCodes(t, []codeCase{
		{"its own path's spot", impl.QueryTwice, []impl.Clause{match(path(spot("a", ""), hop("a", "", 0, spot("", "")))), end()}},
		{"its own path's hop", impl.QueryTwice, []impl.Clause{match(path(spot("", ""), hop("e", "", 0, spot("", "")), hop("e", "", 0, spot("", "")))), end()}},
		{"another path's hop", impl.QueryTwice, []impl.Clause{match(path(spot("", ""), hop("e", "", 0, spot("", ""))), path(spot("", ""), hop("e", "", 0, spot("", "")))), end()}},
		{"UNWIND twice", impl.QueryTwice, []impl.Clause{unwind(one, "x"), unwind(one, "x"), end()}},
		{"hops without names", impl.QueryFine, []impl.Clause{match(path(spot("", ""), hop("", "", 0, spot("", "")), hop("", "", 0, spot("", "")))), end()}},
	})
}

// The first code is told, as the question is written.
func TestQueryCheckTellsTheFirstCode(t *testing.T) {
	a, none, count := match(path(spot("a", ""))), variable("none"), impl.Expr{Kind: impl.ExprCount}
	checkCodes(t, []codeCase{
		{"clause by clause", impl.QueryNone, []impl.Clause{where(none), where(count), end()}},
		{"clause by clause, turned", impl.QueryPlace, []impl.Clause{where(count), where(none), end()}},
		{"one expression has both", impl.QueryPlace, []impl.Clause{where(ofParts(impl.ExprAnd, none, count)), end()}},
		{"item by item", impl.QueryNone, []impl.Clause{giveBack(item(none, "x"), item(ofParts(impl.ExprNot, count), "y"))}},
		{"item by item, turned", impl.QueryPlace, []impl.Clause{giveBack(item(ofParts(impl.ExprNot, count), "y"), item(none, "x"))}},
		{"UNWIND's expression first", impl.QueryNone, []impl.Clause{a, unwind(none, "a"), end()}},
		{"a hop's kind ahead of its name", impl.QueryPlace, []impl.Clause{a, create(path(spot("", ""), hop("a", "", 1, spot("", ""))))}},
		{"a hop's name ahead of its spot", impl.QueryTwice, []impl.Clause{a, create(path(spot("", ""), hop("a", "K", 1, spot("", "", pat("n", none)))))}},
		{"a hop's kind ahead of its spot", impl.QueryPlace, []impl.Clause{a, create(path(spot("", ""), hop("", "", 1, spot("a", "P"))))}},
		{"a spot ahead of its hop", impl.QueryTwice, []impl.Clause{a, create(path(spot("a", "P"), hop("", "", 1, spot("", ""))))}},
		{"a spot's props ahead of its name", impl.QueryNone, []impl.Clause{a, create(path(spot("a", "P", pat("n", none))))}},
		{"a spot's props, one by one", impl.QueryNone, []impl.Clause{a, create(path(spot("a", "P", pat("n", none), pat("m", count))))}},
		{"path by path", impl.QueryTwice, []impl.Clause{a, create(path(spot("a", "P")), path(spot("", ""), hop("", "", 1, spot("", ""))))}},
		{"to by to", impl.QueryNone, []impl.Clause{a, set(to("b", "n", one), to("a", "n", count))}},
		{"to by to, turned", impl.QueryPlace, []impl.Clause{a, set(to("a", "n", count), to("b", "n", one))}},
	})
}
