package tests

import (
	"math"
	"slices"
	"strings"
	"testing"

	"loop.example/ashlar/impl"
)

// Ids that no graph of these tests has as a node or an edge.
var noIds = []int{-1, 100, impl.NumMax, impl.NumMax + 1, math.MinInt, math.MaxInt}

// Texts that are no names.
var noNames = []string{"", "9", "1a", "abcdefghi", "a b", "a ", " a", "a_b", "a-b", "ä", "a\x00", "'", "MATCH", "size", strings.Repeat("a", 100000)}

func nodeIds(g impl.Graph) []int {
	var ids []int
	for _, n := range g.Nodes {
		ids = append(ids, n.Id)
	}
	return ids
}

func edgeIds(g impl.Graph) []int {
	var ids []int
	for _, e := range g.Edges {
		ids = append(ids, e.Id)
	}
	return ids
}

// leave is a graph without some nodes and edges, worked out by the test itself.
func leave(g impl.Graph, node func(n impl.Node) bool, edge func(e impl.Edge) bool) impl.Graph {
	g = tidy(g)
	g.Nodes = slices.DeleteFunc(g.Nodes, func(n impl.Node) bool { return !node(n) })
	g.Edges = slices.DeleteFunc(g.Edges, func(e impl.Edge) bool { return !edge(e) })
	return g
}

func TestNameOk(t *testing.T) {
	for _, s := range []string{"a", "Z", "a1", "abcdefgh", "A2345678", "match", "Null", "TRUE", "Count", "sizes", "AN", "ANDY"} {
		if !impl.NameOk(s) {
			t.Errorf("%q is a name", s)
		}
	}
	words := strings.Fields("MATCH OPTIONAL WHERE UNWIND WITH RETURN CREATE SET DELETE DETACH AS AND OR NOT IS NULL IN DISTINCT ORDER BY DESC SKIP LIMIT null true false count sum size")
	for _, s := range append(words, noNames...) {
		if impl.NameOk(s) {
			t.Errorf("%.20q is no name", s)
		}
	}
	for c := range 256 {
		letter := 'a' <= c && c <= 'z' || 'A' <= c && c <= 'Z'
		figure := '0' <= c && c <= '9'
		s := string([]byte{byte(c)})
		if impl.NameOk(s) != letter || impl.NameOk("a"+s) != (letter || figure) {
			t.Errorf("byte %d", c)
		}
	}
}

func TestGraphOk(t *testing.T) {
	for _, g := range []impl.Graph{{}, smallGraph(), fullGraph(), {NextNode: impl.NumMax, NextEdge: impl.NumMax}, {Nodes: []impl.Node{}, Edges: []impl.Edge{}}} {
		if !impl.GraphOk(g) {
			t.Errorf("ok: %s", show(g))
		}
	}
	for name, g := range wrongGraphs() {
		if impl.GraphOk(g) {
			t.Errorf("not ok: %s", name)
		}
	}
}

func TestGraphThatIsNotOk(t *testing.T) {
	isNothing := func(name string, g impl.Graph, id int, ok bool) {
		if !same(g, impl.Graph{}) || id != 0 || ok {
			t.Errorf("%s: %s %d %v", name, show(g), id, ok)
		}
	}
	for name, w := range wrongGraphs() {
		g, id, ok := impl.NodeAdd(w, nil, nil)
		isNothing("NodeAdd, "+name, g, id, ok)
		g, id, ok = impl.EdgeAdd(w, "K", 4, 4, nil)
		isNothing("EdgeAdd, "+name, g, id, ok)
		g, ok = impl.NodeDrop(w, 4, true)
		isNothing("NodeDrop, "+name, g, 0, ok)
		g, ok = impl.EdgeDrop(w, 2)
		isNothing("EdgeDrop, "+name, g, 0, ok)
		g, ok = impl.PropSet(w, nodeRef(4), "n", num(1))
		isNothing("PropSet, "+name, g, 0, ok)
		g, ok = impl.LabelSet(w, 4, "P", true)
		isNothing("LabelSet, "+name, g, 0, ok)
		if !same(impl.PropGet(w, nodeRef(1), "o"), null()) || len(impl.NodesWith(w, "")) != 0 || len(impl.EdgesOf(w, 4, 0, "")) != 0 {
			t.Errorf("something is told of %s", name)
		}
	}
}

// Promise 7: a node that was added is the last, under a number that never was.
func TestPromise7NodeIsAddedBehindAll(t *testing.T) {
	labels, given := []string{"A", "Z"}, []impl.Prop{prop("a", list(num(1))), prop("b", text("x"))}
	for _, g := range someGraphs(t) {
		h, id, ok := impl.NodeAdd(g, labels, given)
		want := tidy(g)
		if len(g.Nodes) == impl.NodeMax || g.NextNode == impl.NumMax {
			if ok || id != 0 || !same(h, g) {
				t.Errorf("no room in %s", show(g))
			}
			continue
		}
		want.Nodes = append(want.Nodes, impl.Node{Id: g.NextNode, Labels: labels, Props: given})
		want.NextNode++
		if !ok || id != g.NextNode || !same(h, want) || !impl.GraphOk(h) {
			t.Fatalf("%s: %d %v %s", show(g), id, ok, show(h))
		}
		back, ok := impl.NodeDrop(h, id, false)
		back.NextNode--
		if !ok || !same(back, g) {
			t.Errorf("%s, back: %s", show(g), show(back))
		}
	}
}

func TestPromise7NodeLimits(t *testing.T) {
	g := impl.Graph{}
	for i := range impl.NodeMax + 1 {
		h, id, ok := impl.NodeAdd(g, nil, nil)
		if ok != (i < impl.NodeMax) || ok && id != i || !ok && (id != 0 || !same(h, g)) {
			t.Errorf("node %d: %d %v", i, id, ok)
		}
		g = h
	}
	last, id, ok := impl.NodeAdd(impl.Graph{NextNode: impl.NumMax - 1}, nil, nil)
	if !ok || id != impl.NumMax-1 || last.NextNode != impl.NumMax {
		t.Error("the last number")
	}
	last, id, ok = impl.NodeAdd(impl.Graph{NextNode: impl.NumMax}, nil, nil)
	if ok || id != 0 || !same(last, impl.Graph{NextNode: impl.NumMax}) {
		t.Error("behind the last number")
	}
}

// wrongLabels and wrongProps may be given to nobody.
func wrongLabels() [][]string {
	all := [][]string{{"A", "B", "C", "D"}, {"A", "A"}, {"B", "A"}, {"A", "C", "B"}}
	for _, s := range noNames {
		all = append(all, []string{s})
	}
	return all
}

func wrongProps() [][]impl.Prop {
	all := [][]impl.Prop{
		{prop("a", num(1)), prop("b", num(1)), prop("c", num(1)), prop("d", num(1)), prop("e", num(1))},
		{prop("a", num(1)), prop("a", num(1))}, {prop("b", num(1)), prop("a", num(1))},
		{prop("a", null())}, {prop("a", nodeRef(1))}, {prop("a", edgeRef(1))}, {prop("a", num(1)), prop("b", list(null()))}, {prop("a", list(list(nodeRef(1))))}, {prop("a", list(num(1), edgeRef(1)))},
	}
	for _, s := range noNames {
		all = append(all, []impl.Prop{prop(s, num(1))})
	}
	for _, v := range wrongValues() {
		all = append(all, []impl.Prop{prop("a", v)})
	}
	return all
}

func TestPromise7WrongNodesAreNotAdded(t *testing.T) {
	g := smallGraph()
	for _, labels := range wrongLabels() {
		if h, id, ok := impl.NodeAdd(g, labels, nil); ok || id != 0 || !same(h, g) {
			t.Errorf("labels %.40q", labels)
		}
	}
	for i, given := range wrongProps() {
		if h, id, ok := impl.NodeAdd(g, nil, given); ok || id != 0 || !same(h, g) {
			t.Errorf("props %d", i)
		}
	}
	full := fullGraph().Nodes[0]
	if _, _, ok := impl.NodeAdd(g, full.Labels, full.Props); !ok {
		t.Error("limits are met")
	}
}

// Promise 76: two nodes one behind the other have two numbers, and the props that they have.
func TestPromise76TwoNodesHaveTwoNumbers(t *testing.T) {
	given := []impl.Prop{prop("a", list(num(1), text("x"))), prop("b", yes())}
	for _, g := range someGraphs(t) {
		if len(g.Nodes)+2 > impl.NodeMax {
			continue
		}
		h, one, _ := impl.NodeAdd(g, []string{"P"}, given)
		h, two, ok := impl.NodeAdd(h, []string{"P"}, given)
		if !ok || two != one+1 {
			t.Fatalf("%s: %d %d", show(g), one, two)
		}
		for _, p := range given {
			if !same(impl.PropGet(h, nodeRef(one), p.Name), p.Value) || !same(impl.PropGet(h, nodeRef(two), p.Name), p.Value) {
				t.Errorf("%s: prop %s", show(h), p.Name)
			}
		}
	}
}

// Promise 8: an edge that was added is out of the one node, and into the other one.
func TestPromise8EdgeIsAddedBehindAll(t *testing.T) {
	given := []impl.Prop{prop("a", list(num(1))), prop("b", text("x"))}
	for _, g := range someGraphs(t) {
		for i, from := range nodeIds(g) {
			to := g.Nodes[(i*7+1)%len(g.Nodes)].Id
			h, id, ok := impl.EdgeAdd(g, "NEW", from, to, given)
			if len(g.Edges) == impl.EdgeMax || g.NextEdge == impl.NumMax {
				if ok || id != 0 || !same(h, g) {
					t.Errorf("no room in %s", show(g))
				}
				continue
			}
			want := tidy(g)
			want.Edges = append(want.Edges, impl.Edge{Id: g.NextEdge, Kind: "NEW", From: from, To: to, Props: given})
			want.NextEdge++
			if !ok || id != g.NextEdge || !same(h, want) || !impl.GraphOk(h) {
				t.Fatalf("%s: %d %v %s", show(g), id, ok, show(h))
			}
			for _, ids := range [][]int{impl.EdgesOf(h, from, 1, ""), impl.EdgesOf(h, to, -1, ""), impl.EdgesOf(h, from, 0, ""), impl.EdgesOf(h, to, 0, "NEW")} {
				if len(ids) == 0 || ids[len(ids)-1] != id {
					t.Errorf("%d is not the last of %v", id, ids)
				}
			}
			back, ok := impl.EdgeDrop(h, id)
			back.NextEdge--
			if !ok || !same(back, g) {
				t.Errorf("%s, back: %s", show(g), show(back))
			}
		}
	}
}

func TestPromise8EdgeLimits(t *testing.T) {
	g, a, _ := impl.NodeAdd(impl.Graph{}, nil, nil)
	for i := range impl.EdgeMax + 1 {
		h, id, ok := impl.EdgeAdd(g, "K", a, a, nil)
		if ok != (i < impl.EdgeMax) || ok && id != i || !ok && (id != 0 || !same(h, g)) {
			t.Errorf("edge %d: %d %v", i, id, ok)
		}
		g = h
	}
	g = smallGraph()
	g.NextEdge = impl.NumMax - 1
	h, id, ok := impl.EdgeAdd(g, "K", 4, 1, nil)
	if !ok || id != impl.NumMax-1 || h.NextEdge != impl.NumMax {
		t.Error("the last number")
	}
	if i, id, ok := impl.EdgeAdd(h, "K", 4, 1, nil); ok || id != 0 || !same(i, h) {
		t.Error("behind the last number")
	}
}

func TestPromise8WrongEdgesAreNotAdded(t *testing.T) {
	g := smallGraph()
	for _, id := range append([]int{0, 2, 3, 5}, noIds...) {
		if h, n, ok := impl.EdgeAdd(g, "K", id, 4, nil); ok || n != 0 || !same(h, g) {
			t.Errorf("from %d", id)
		}
		if h, n, ok := impl.EdgeAdd(g, "K", 4, id, nil); ok || n != 0 || !same(h, g) {
			t.Errorf("to %d", id)
		}
	}
	for _, s := range noNames {
		if h, n, ok := impl.EdgeAdd(g, s, 1, 4, nil); ok || n != 0 || !same(h, g) {
			t.Errorf("kind %.20q", s)
		}
	}
	for i, given := range wrongProps() {
		if h, n, ok := impl.EdgeAdd(g, "K", 1, 4, given); ok || n != 0 || !same(h, g) {
			t.Errorf("props %d", i)
		}
	}
	full := fullGraph().Edges[0]
	if _, _, ok := impl.EdgeAdd(g, full.Kind, 1, 4, full.Props); !ok {
		t.Error("limits are met")
	}
}

// Promise 9: a node that was taken away is gone, with all its edges, and nothing else.
func TestPromise9NodeIsTakenAway(t *testing.T) {
	for _, g := range someGraphs(t) {
		for _, id := range nodeIds(g) {
			want := leave(g, func(n impl.Node) bool { return n.Id != id }, func(e impl.Edge) bool { return e.From != id && e.To != id })
			if h, ok := impl.NodeDrop(g, id, true); !ok || !same(h, want) {
				t.Errorf("%d of %s: %s", id, show(g), show(h))
			}
			h, ok := impl.NodeDrop(g, id, false)
			if held := len(want.Edges) < len(g.Edges); held && (ok || !same(h, g)) || !held && (!ok || !same(h, want)) {
				t.Errorf("%d of %s, without detach: %v %s", id, show(g), ok, show(h))
			}
		}
		for _, id := range noIds {
			one, ok := impl.NodeDrop(g, id, true)
			two, none := impl.NodeDrop(g, id, false)
			if ok || none || !same(one, g) || !same(two, g) {
				t.Errorf("%d is not in %s", id, show(g))
			}
		}
	}
}

func TestPromise9NodeWithAnEdgeToItself(t *testing.T) {
	g := impl.Graph{Nodes: []impl.Node{{Id: 0}}, Edges: []impl.Edge{{Id: 0, Kind: "K"}}, NextNode: 1, NextEdge: 1}
	if h, ok := impl.NodeDrop(g, 0, false); ok || !same(h, g) {
		t.Error("it is held by itself")
	}
	if h, ok := impl.NodeDrop(g, 0, true); !ok || !same(h, impl.Graph{NextNode: 1, NextEdge: 1}) {
		t.Error("it goes with its edge")
	}
}

// Promise 10: an edge that was taken away is gone, and nothing else.
func TestPromise10EdgeIsTakenAway(t *testing.T) {
	for _, g := range someGraphs(t) {
		for _, id := range edgeIds(g) {
			want := leave(g, func(n impl.Node) bool { return true }, func(e impl.Edge) bool { return e.Id != id })
			if h, ok := impl.EdgeDrop(g, id); !ok || !same(h, want) {
				t.Errorf("%d of %s: %s", id, show(g), show(h))
			}
		}
		for _, id := range noIds {
			if h, ok := impl.EdgeDrop(g, id); ok || !same(h, g) {
				t.Errorf("%d is not in %s", id, show(g))
			}
		}
	}
}

func allRefs(g impl.Graph) []impl.Value {
	var refs []impl.Value
	for _, id := range nodeIds(g) {
		refs = append(refs, nodeRef(id))
	}
	for _, id := range edgeIds(g) {
		refs = append(refs, edgeRef(id))
	}
	return refs
}

func propsIn(g impl.Graph, v impl.Value) *[]impl.Prop {
	for i := range g.Nodes {
		if v.Kind == impl.IsNode && g.Nodes[i].Id == v.Num {
			return &g.Nodes[i].Props
		}
	}
	for i := range g.Edges {
		if v.Kind == impl.IsEdge && g.Edges[i].Id == v.Num {
			return &g.Edges[i].Props
		}
	}
	return nil
}

// wantSet is what PropSet of values that may be set must lead to.
func wantSet(g impl.Graph, v impl.Value, name string, to impl.Value) (impl.Graph, bool) {
	g = tidy(g)
	in := propsIn(g, v)
	*in = slices.DeleteFunc(*in, func(p impl.Prop) bool { return p.Name == name })
	if to.Kind != impl.IsNull {
		*in = append(*in, prop(name, to))
	}
	slices.SortFunc(*in, func(a, b impl.Prop) int { return strings.Compare(a.Name, b.Name) })
	return g, len(*in) <= impl.PropMax
}

// Promise 11: a prop that was set is got, and all others stay.
func TestPromise11PropIsSet(t *testing.T) {
	values := []impl.Value{null(), num(-7), text(""), no(), list(), list(text("x"), list(num(1)))}
	for _, g := range someGraphs(t) {
		for _, v := range allRefs(g) {
			for i, name := range []string{"a", "Z", "n", "zZ9", "zz"} {
				to := values[(i+v.Num)%len(values)]
				was := impl.PropGet(g, v, name)
				h, ok := impl.PropSet(g, v, name, to)
				want, may := wantSet(g, v, name, to)
				if !may {
					want = g
				}
				if ok != may || !same(h, want) {
					t.Fatalf("%s of %s in %s: %v %s", name, impl.ValuePut(v), show(g), ok, show(h))
				}
				if ok && !same(impl.PropGet(h, v, name), to) {
					t.Errorf("%s of %s is not got", name, impl.ValuePut(v))
				}
				if back, ok := impl.PropSet(h, v, name, was); !ok && may || !same(back, g) {
					t.Errorf("%s of %s set back in %s: %s", name, impl.ValuePut(v), show(g), show(back))
				}
			}
		}
	}
}

func TestPromise11PropIsSetAsItWas(t *testing.T) {
	for _, g := range someGraphs(t) {
		for _, v := range allRefs(g) {
			for _, p := range *propsIn(g, v) {
				if h, ok := impl.PropSet(g, v, p.Name, impl.PropGet(g, v, p.Name)); !ok || !same(h, g) {
					t.Errorf("%s of %s in %s", p.Name, impl.ValuePut(v), show(g))
				}
			}
			if h, ok := impl.PropSet(g, v, "none", null()); !ok || !same(h, g) {
				t.Errorf("nothing is taken away of %s", impl.ValuePut(v))
			}
		}
	}
}

func TestPromise11PropLimits(t *testing.T) {
	g := fullGraph()
	for _, v := range []impl.Value{nodeRef(0), edgeRef(0)} {
		if h, ok := impl.PropSet(g, v, "e", num(1)); ok || !same(h, g) {
			t.Error("one prop more")
		}
		if h, ok := impl.PropSet(g, v, "a", num(100)); !ok || !same(impl.PropGet(h, v, "a"), num(100)) {
			t.Error("instead of one")
		}
		h, one := impl.PropSet(g, v, "a", null())
		h, two := impl.PropSet(h, v, "e", num(1))
		if !one || !two || !same(impl.PropGet(h, v, "e"), num(1)) || !same(impl.PropGet(h, v, "a"), null()) {
			t.Error("one less, then one more")
		}
	}
}

func TestPromise11WrongPropsAreNotSet(t *testing.T) {
	g := smallGraph()
	stays := func(what string, v impl.Value, name string, to impl.Value) {
		if h, ok := impl.PropSet(g, v, name, to); ok || !same(h, g) {
			t.Errorf("%s: %.20q %+v", what, name, v.Num)
		}
	}
	for _, v := range []impl.Value{nodeRef(1), edgeRef(0)} {
		for _, to := range append(wrongValues(), nodeRef(1), edgeRef(0), list(null()), list(list(nodeRef(1))), list(edgeRef(0))) {
			stays("value", v, "n", to)
		}
		for _, name := range noNames {
			stays("name", v, name, num(1))
			stays("name", v, name, null())
			if !same(impl.PropGet(g, v, name), null()) {
				t.Errorf("%.20q is no name", name)
			}
		}
	}
	others := append(wrongValues(), null(), num(1), yes(), text("n"), list(nodeRef(1)), nodeRef(0), nodeRef(5), nodeRef(6), edgeRef(1), edgeRef(3), edgeRef(4), impl.Value{Kind: impl.IsNode, Num: 1, Text: "x"}, impl.Value{Kind: impl.IsEdge, Num: 0, List: []impl.Value{{}}})
	for i, v := range others {
		stays("of what is not there", v, "n", num(1))
		stays("of what is not there", v, "n", null())
		if !same(impl.PropGet(g, v, "n"), null()) || !same(impl.PropGet(g, v, "w"), null()) {
			t.Errorf("something is got of %d", i)
		}
	}
}

// Promise 12: a label that was given is there, and all others stay.
func TestPromise12LabelIsGiven(t *testing.T) {
	for _, g := range someGraphs(t) {
		for i, n := range g.Nodes {
			for _, label := range []string{"A", "P", "longname", "a", "B"} {
				there := slices.Contains(n.Labels, label)
				want := tidy(g)
				if !there && len(n.Labels) < impl.LabelMax {
					want.Nodes[i].Labels = append(want.Nodes[i].Labels, label)
					slices.Sort(want.Nodes[i].Labels)
				}
				with, ok := impl.LabelSet(g, n.Id, label, true)
				if ok != (there || len(n.Labels) < impl.LabelMax) || !same(with, want) || slices.Contains(impl.NodesWith(with, label), n.Id) != ok {
					t.Fatalf("%s of %d in %s: %v %s", label, n.Id, show(g), ok, show(with))
				}
				want = tidy(g)
				want.Nodes[i].Labels = slices.DeleteFunc(want.Nodes[i].Labels, func(s string) bool { return s == label })
				less, ok := impl.LabelSet(g, n.Id, label, false)
				if !ok || !same(less, want) || slices.Contains(impl.NodesWith(less, label), n.Id) {
					t.Fatalf("without %s of %d in %s: %v %s", label, n.Id, show(g), ok, show(less))
				}
				again, _ := impl.LabelSet(with, n.Id, label, true)
				twice, _ := impl.LabelSet(less, n.Id, label, false)
				if !same(again, with) || !same(twice, less) {
					t.Errorf("%s of %d in %s is not the same again", label, n.Id, show(g))
				}
			}
		}
	}
}

func TestPromise12LabelLimitsAndWrongLabels(t *testing.T) {
	full := fullGraph()
	if h, ok := impl.LabelSet(full, 0, "D", true); ok || !same(h, full) {
		t.Error("one label more")
	}
	if h, ok := impl.LabelSet(full, 0, "B", true); !ok || !same(h, full) {
		t.Error("a label that is there")
	}
	g := smallGraph()
	for _, has := range []bool{true, false} {
		for _, label := range noNames {
			if h, ok := impl.LabelSet(g, 1, label, has); ok || !same(h, g) {
				t.Errorf("label %.20q", label)
			}
		}
		for _, id := range append([]int{0, 2, 5, 6}, noIds...) {
			if h, ok := impl.LabelSet(g, id, "P", has); ok || !same(h, g) {
				t.Errorf("node %d", id)
			}
		}
	}
}

// Promise 13: nodes with a label are those that have it.
func TestPromise13NodesWith(t *testing.T) {
	for _, g := range someGraphs(t) {
		for _, label := range []string{"A", "P", "Q", "longname", "none", "p"} {
			var want []int
			for _, n := range g.Nodes {
				if slices.Contains(n.Labels, label) {
					want = append(want, n.Id)
				}
			}
			if got := impl.NodesWith(g, label); !slices.Equal(got, want) {
				t.Errorf("%s in %s: %v", label, show(g), got)
			}
		}
		if got := impl.NodesWith(g, ""); !slices.Equal(got, nodeIds(g)) {
			t.Errorf("all of %s: %v", show(g), got)
		}
		for _, label := range noNames[1:] {
			if len(impl.NodesWith(g, label)) != 0 {
				t.Errorf("%.20q is no label", label)
			}
		}
	}
}

// Promise 14: edges of a node are those out of it, and those into it.
func TestPromise14EdgesOf(t *testing.T) {
	for _, g := range someGraphs(t) {
		for _, id := range append(nodeIds(g), noIds...) {
			for _, kind := range []string{"", "K", "L", "K2345678", "none", "k"} {
				var out, in, either []int
				for _, e := range g.Edges {
					if kind != "" && e.Kind != kind {
						continue
					}
					if e.From == id {
						out = append(out, e.Id)
					}
					if e.To == id {
						in = append(in, e.Id)
					}
					if e.From == id || e.To == id {
						either = append(either, e.Id)
					}
				}
				if !slices.Equal(impl.EdgesOf(g, id, 1, kind), out) || !slices.Equal(impl.EdgesOf(g, id, -1, kind), in) || !slices.Equal(impl.EdgesOf(g, id, 0, kind), either) {
					t.Errorf("%q of %d in %s", kind, id, show(g))
				}
				for _, way := range []int{2, -2, math.MaxInt, math.MinInt} {
					if len(impl.EdgesOf(g, id, way, kind)) != 0 {
						t.Errorf("way %d", way)
					}
				}
			}
		}
	}
}

func TestPromise14EdgeToItselfComesOnce(t *testing.T) {
	g := smallGraph()
	for _, c := range []struct {
		id, way int
		kind    string
		want    []int
	}{{4, 1, "", []int{2}}, {4, -1, "", []int{0, 2}}, {4, 0, "", []int{0, 2}}, {4, 0, "L", []int{2}}, {4, 0, "K", []int{0}}, {1, 1, "", []int{0}}, {1, -1, "", nil}, {1, 0, "L", nil}} {
		if got := impl.EdgesOf(g, c.id, c.way, c.kind); !slices.Equal(got, c.want) {
			t.Errorf("%+v: %v", c, got)
		}
	}
}

// Promise 82: each edge is out of one node, and into one.
func TestPromise82EachEdgeIsOutOfOneAndIntoOne(t *testing.T) {
	for _, g := range someGraphs(t) {
		out, in := 0, 0
		for _, id := range impl.NodesWith(g, "") {
			out += len(impl.EdgesOf(g, id, 1, ""))
			in += len(impl.EdgesOf(g, id, -1, ""))
		}
		if out != len(g.Edges) || in != len(g.Edges) {
			t.Errorf("%d out, %d in of %s", out, in, show(g))
		}
	}
}

// Promise 83: without all its nodes a graph has nothing.
func TestPromise83WithoutAllNodes(t *testing.T) {
	for _, g := range someGraphs(t) {
		h := g
		for _, id := range nodeIds(g) {
			next, ok := impl.NodeDrop(h, id, true)
			if !ok || !impl.GraphOk(next) {
				t.Fatalf("%d of %s", id, show(h))
			}
			h = next
		}
		if !same(h, impl.Graph{NextNode: g.NextNode, NextEdge: g.NextEdge}) {
			t.Errorf("%s leaves %s", show(g), show(h))
		}
	}
}
