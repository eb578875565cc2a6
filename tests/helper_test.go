package tests

import (
	"fmt"
	"reflect"
	"testing"

	"loop.example/ashlar/impl"
)

// dice tells the same numbers in each run, so that a test that fails does so again.
type dice uint64

func (d *dice) roll(n int) int {
	*d = *d*6364136223846793005 + 1442695040888963407
	return int(uint64(*d)>>33) % n
}

func null() impl.Value         { return impl.Value{} }
func num(n int) impl.Value     { return impl.Value{Kind: impl.IsNum, Num: n} }
func text(s string) impl.Value { return impl.Value{Kind: impl.IsText, Text: s} }
func nodeRef(n int) impl.Value { return impl.Value{Kind: impl.IsNode, Num: n} }
func edgeRef(n int) impl.Value { return impl.Value{Kind: impl.IsEdge, Num: n} }
func yes() impl.Value          { return impl.Value{Kind: impl.IsBool, Num: 1} }
func no() impl.Value           { return impl.Value{Kind: impl.IsBool} }
func prop(name string, v impl.Value) impl.Prop {
	return impl.Prop{Name: name, Value: v}
}
func list(values ...impl.Value) impl.Value {
	return impl.Value{Kind: impl.IsList, List: values}
}

// ascendingValues is values that are ok, each of them ahead of the next one; each limit is met by one of them.
func ascendingValues() []impl.Value {
	return []impl.Value{
		nodeRef(0), nodeRef(7), nodeRef(impl.NumMax),
		edgeRef(0), edgeRef(7), edgeRef(impl.NumMax),
		list(),
		list(nodeRef(1)), list(edgeRef(0)),
		list(list()), list(list(list()), num(1)), list(list(list()), num(1), null()), list(list(list(), null())), list(list(num(1))), list(list(num(2)), num(0)), list(list(null())),
		list(text("")), list(text("a"), text("b")), list(text("b")),
		list(no()), list(yes()),
		list(num(-1)), list(num(1)), list(num(1), num(2)), list(num(1), num(2), num(3), num(4), num(5), num(6)), list(num(2)), list(num(2), null()),
		list(null()), list(null(), null()),
		text(""), text(" "), text("A"), text("Z, [1]"), text("a"), text("aa"), text("abcdefghijklmnop"), text("b"), text("~"),
		no(), yes(),
		num(-impl.NumMax), num(-10), num(-9), num(-1), num(0), num(1), num(9), num(10), num(impl.NumMax),
		null(),
	}
}

// wrongValues is values that are not ok, for each reason that there is.
func wrongValues() []impl.Value {
	deep := list(list(list(num(1))))
	wrong := []impl.Value{
		{Kind: -1}, {Kind: 7},
		{Num: 1}, {Text: "x"}, {List: []impl.Value{{}}},
		{Kind: impl.IsBool, Num: 2}, {Kind: impl.IsBool, Num: -1}, {Kind: impl.IsBool, Text: "x"}, {Kind: impl.IsBool, List: []impl.Value{{}}},
		num(impl.NumMax + 1), num(-impl.NumMax - 1), {Kind: impl.IsNum, Num: 1, Text: "x"}, {Kind: impl.IsNum, List: []impl.Value{{}}},
		text("abcdefghijklmnopq"), text("\x1f"), text("\x7f"), text("\x80"), text("it's"), text("\n"), {Kind: impl.IsText, Num: 1}, {Kind: impl.IsText, List: []impl.Value{{}}},
		list(null(), null(), null(), null(), null(), null(), null()), deep, list(list(list(list()))), list(num(impl.NumMax + 1)), list(list(nodeRef(-1))), {Kind: impl.IsList, Num: 1}, {Kind: impl.IsList, Text: "x"},
		nodeRef(-1), nodeRef(impl.NumMax + 1), {Kind: impl.IsNode, Text: "x"}, {Kind: impl.IsNode, List: []impl.Value{{}}},
		edgeRef(-1), edgeRef(impl.NumMax + 1), {Kind: impl.IsEdge, Text: "x"}, {Kind: impl.IsEdge, List: []impl.Value{{}}},
	}
	return append(wrong, holdsItself(1), holdsItself(3))
}

// holdsItself is a list in which each value is the list.
func holdsItself(size int) impl.Value {
	v := list(make([]impl.Value, size)...)
	for i := range v.List {
		v.List[i] = v
	}
	return v
}

// tidy is a copy of anything in which no list is empty but nil, as these two are one.
func tidy[T any](x T) T {
	return tidyAny(reflect.ValueOf(x)).Interface().(T)
}

func tidyAny(x reflect.Value) reflect.Value {
	switch x.Kind() {
	case reflect.Slice:
		if x.Len() == 0 {
			return reflect.Zero(x.Type())
		}
		y := reflect.MakeSlice(x.Type(), x.Len(), x.Len())
		for i := range x.Len() {
			y.Index(i).Set(tidyAny(x.Index(i)))
		}
		return y
	case reflect.Struct:
		y := reflect.New(x.Type()).Elem()
		for i := range x.NumField() {
			y.Field(i).Set(tidyAny(x.Field(i)))
		}
		return y
	default:
		return x
	}
}

func same[T any](a T, b T) bool {
	return reflect.DeepEqual(tidy(a), tidy(b))
}

func names(d *dice, all []string, most int) []string {
	var some []string
	for _, s := range all {
		if len(some) < most && d.roll(2) == 0 {
			some = append(some, s)
		}
	}
	return some
}

func props(d *dice) []impl.Prop {
	values := []impl.Value{num(1), num(2), text("1"), text("x"), yes(), list(), list(num(1), text("x"))}
	var some []impl.Prop
	for _, s := range names(d, []string{"a", "b1", "n", "name", "zZ9"}, impl.PropMax) {
		some = append(some, prop(s, values[d.roll(len(values))]))
	}
	return some
}

// makeGraph is a graph that is ok, with gaps between numbers, edges to the same node, and values that come again.
func makeGraph(d *dice) impl.Graph {
	var g impl.Graph
	for range d.roll(impl.NodeMax + 1) {
		id := g.NextNode + d.roll(2)
		g.Nodes = append(g.Nodes, impl.Node{Id: id, Labels: names(d, []string{"A", "P", "Q", "longname"}, impl.LabelMax), Props: props(d)})
		g.NextNode = id + 1
	}
	if len(g.Nodes) > 0 {
		for range d.roll(impl.EdgeMax + 1) {
			id := g.NextEdge + d.roll(2)
			from, to := g.Nodes[d.roll(len(g.Nodes))].Id, g.Nodes[d.roll(len(g.Nodes))].Id
			g.Edges = append(g.Edges, impl.Edge{Id: id, Kind: []string{"K", "L"}[d.roll(2)], From: from, To: to, Props: props(d)})
			g.NextEdge = id + 1
		}
	}
	g.NextNode += d.roll(2)
	g.NextEdge += d.roll(2)
	return g
}

// someGraphs is graphs from the empty one up to one that is full.
func someGraphs(t *testing.T) []impl.Graph {
	d := dice(1)
	graphs := []impl.Graph{{}, fullGraph(), {NextNode: 5, NextEdge: 6}}
	for range 120 {
		graphs = append(graphs, makeGraph(&d))
	}
	for i, g := range graphs {
		if !impl.GraphOk(g) {
			t.Fatalf("graph %d is not ok: %+v", i, g)
		}
	}
	return graphs
}

// fullGraph meets each limit of a graph exactly.
func fullGraph() impl.Graph {
	g := impl.Graph{NextNode: impl.NumMax, NextEdge: impl.NumMax}
	for i := range impl.NodeMax {
		g.Nodes = append(g.Nodes, impl.Node{Id: i, Labels: []string{"A", "B", "C"}, Props: []impl.Prop{prop("a", num(i)), prop("b", list(text("x"), list(list()))), prop("c", yes()), prop("d2345678", text("abcdefghijklmnop"))}})
	}
	for i := range impl.EdgeMax {
		g.Edges = append(g.Edges, impl.Edge{Id: i, Kind: "K2345678", From: i % impl.NodeMax, To: i * 5 % impl.NodeMax, Props: []impl.Prop{prop("a", num(i)), prop("b", num(2)), prop("c", num(3)), prop("d", num(4))}})
	}
	g.Nodes[impl.NodeMax-1].Id = impl.NumMax - 1
	g.Edges[impl.EdgeMax-1].Id = impl.NumMax - 1
	for i := range g.Edges {
		if g.Edges[i].From == impl.NodeMax-1 {
			g.Edges[i].From = impl.NumMax - 1
		}
		if g.Edges[i].To == impl.NodeMax-1 {
			g.Edges[i].To = impl.NumMax - 1
		}
	}
	return g
}

// smallGraph is two nodes and two edges, one of them from a node to itself.
func smallGraph() impl.Graph {
	return impl.Graph{
		Nodes:    []impl.Node{{Id: 1, Labels: []string{"P", "Q"}, Props: []impl.Prop{prop("n", num(3)), prop("o", list(num(1), text("x")))}}, {Id: 4, Labels: []string{"P"}}},
		Edges:    []impl.Edge{{Id: 0, Kind: "K", From: 1, To: 4, Props: []impl.Prop{prop("w", num(1))}}, {Id: 2, Kind: "L", From: 4, To: 4}},
		NextNode: 6,
		NextEdge: 3,
	}
}

// wrongGraphs is graphs that are not ok, each by one thing that was done to smallGraph or fullGraph.
func wrongGraphs() map[string]impl.Graph {
	wrong := map[string]impl.Graph{}
	small := func(name string, spoil func(g *impl.Graph)) {
		g := smallGraph()
		spoil(&g)
		wrong[name] = g
	}
	small("node below 0", func(g *impl.Graph) { g.Nodes[0].Id = -1; g.Edges = nil })
	small("node twice", func(g *impl.Graph) { g.Nodes[0].Id = 4; g.Edges = nil })
	small("nodes out of order", func(g *impl.Graph) { g.Nodes[0], g.Nodes[1] = g.Nodes[1], g.Nodes[0] })
	small("node is next", func(g *impl.Graph) { g.NextNode = 4 })
	small("edge below 0", func(g *impl.Graph) { g.Edges[0].Id = -1 })
	small("edge twice", func(g *impl.Graph) { g.Edges[0].Id = 2 })
	small("edges out of order", func(g *impl.Graph) { g.Edges[0], g.Edges[1] = g.Edges[1], g.Edges[0] })
	small("edge is next", func(g *impl.Graph) { g.NextEdge = 2 })
	small("from nowhere", func(g *impl.Graph) { g.Edges[0].From = 2 })
	small("to nowhere", func(g *impl.Graph) { g.Edges[0].To = 2 })
	small("no kind", func(g *impl.Graph) { g.Edges[0].Kind = "" })
	small("kind is a word", func(g *impl.Graph) { g.Edges[0].Kind = "SET" })
	small("label is no name", func(g *impl.Graph) { g.Nodes[1].Labels[0] = "9" })
	small("label twice", func(g *impl.Graph) { g.Nodes[0].Labels[1] = "P" })
	small("labels out of order", func(g *impl.Graph) { g.Nodes[0].Labels[0] = "R" })
	small("prop is no name", func(g *impl.Graph) { g.Nodes[0].Props[0].Name = "a b" })
	small("prop twice", func(g *impl.Graph) { g.Nodes[0].Props[0].Name = "o" })
	small("props out of order", func(g *impl.Graph) { g.Nodes[0].Props[0].Name = "p" })
	small("prop is nothing", func(g *impl.Graph) { g.Nodes[0].Props[0].Value = null() })
	small("prop is a node", func(g *impl.Graph) { g.Edges[0].Props[0].Value = nodeRef(1) })
	small("prop is an edge", func(g *impl.Graph) { g.Nodes[0].Props[0].Value = edgeRef(0) })
	small("nothing within a prop", func(g *impl.Graph) { g.Nodes[0].Props[0].Value = list(num(1), list(null())) })
	small("a node within a prop", func(g *impl.Graph) { g.Edges[0].Props[0].Value = list(nodeRef(1)) })
	small("an edge within a prop", func(g *impl.Graph) { g.Nodes[0].Props[0].Value = list(list(edgeRef(1))) })
	small("prop is not ok", func(g *impl.Graph) { g.Edges[0].Props[0].Value = num(impl.NumMax + 1) })
	small("prop holds itself", func(g *impl.Graph) { g.Nodes[0].Props[0].Value = holdsItself(2) })
	small("next node below 0", func(g *impl.Graph) { *g = impl.Graph{NextNode: -1} })
	small("next edge below 0", func(g *impl.Graph) { *g = impl.Graph{NextEdge: -1} })
	small("next node too great", func(g *impl.Graph) { g.NextNode = impl.NumMax + 1 })
	small("next edge too great", func(g *impl.Graph) { g.NextEdge = impl.NumMax + 1 })
	small("too many labels", func(g *impl.Graph) { g.Nodes[0].Labels = []string{"A", "B", "C", "D"} })
	small("too many props", func(g *impl.Graph) {
		g.Edges[0].Props = []impl.Prop{prop("a", num(1)), prop("b", num(1)), prop("c", num(1)), prop("d", num(1)), prop("e", num(1))}
	})
	more := fullGraph()
	more.Nodes = append(more.Nodes[:impl.NodeMax-1:impl.NodeMax-1], impl.Node{Id: impl.NumMax - 2}, more.Nodes[impl.NodeMax-1])
	wrong["too many nodes"] = more
	more = fullGraph()
	more.Edges = append(more.Edges[:impl.EdgeMax-1:impl.EdgeMax-1], impl.Edge{Id: impl.NumMax - 2, Kind: "K"}, more.Edges[impl.EdgeMax-1])
	wrong["too many edges"] = more
	return wrong
}

// show is a graph as a text, for what a test tells.
func show(g impl.Graph) string {
	return fmt.Sprintf("%+v", g)
}
