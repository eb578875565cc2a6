package impl

import (
	"slices"
	"strings"
)

// Limits of graphs.
const (
	NodeMax  = 12
	EdgeMax  = 16
	PropMax  = 4
	LabelMax = 3
	NameMax  = 8
)

// Prop is a name, and what it is.
type Prop struct {
	Name  string
	Value Value
}

// Node is a thing: its number, its labels, its props.
type Node struct {
	Id     int
	Labels []string
	Props  []Prop
}

// Edge is what is between two things: its number, its kind, from where, to where, its props.
type Edge struct {
	Id    int
	Kind  string
	From  int
	To    int
	Props []Prop
}

// Graph is nodes and edges by number, and the next number of either.
type Graph struct {
	Nodes    []Node
	Edges    []Edge
	NextNode int
	NextEdge int
}

// NameOk says whether a text is a name.
func NameOk(s string) bool {
	if s == "" || len(s) > NameMax || !isLetter(s[0]) || isKept(s) {
		return false
	}
	for i := 0; i < len(s); i++ {
		if !isLetter(s[i]) && !isFigure(s[i]) {
			return false
		}
	}
	return true
}

// GraphOk says whether a graph is ok.
func GraphOk(g Graph) bool {
	_, ok := netOf(g)
	return ok
}

// NodeAdd adds a node; and tells its number.
func NodeAdd(g Graph, labels []string, props []Prop) (Graph, int, bool) {
	n, ok := netOf(g)
	if !ok {
		return Graph{}, 0, false
	}
	id, added := n.addNode(labels, props)
	return n.graph(), id, added
}

// EdgeAdd adds an edge; and tells its number.
func EdgeAdd(g Graph, kind string, from int, to int, props []Prop) (Graph, int, bool) {
	n, ok := netOf(g)
	if !ok {
		return Graph{}, 0, false
	}
	id, added := n.addEdge(kind, from, to, props)
	return n.graph(), id, added
}

// NodeDrop takes a node away; with its edges, if it may have some.
func NodeDrop(g Graph, id int, detach bool) (Graph, bool) {
	n, ok := netOf(g)
	if !ok {
		return Graph{}, false
	}
	dropped := n.dropNode(id, detach)
	return n.graph(), dropped
}

// EdgeDrop takes an edge away.
func EdgeDrop(g Graph, id int) (Graph, bool) {
	n, ok := netOf(g)
	if !ok {
		return Graph{}, false
	}
	dropped := n.dropEdge(id)
	return n.graph(), dropped
}

// PropGet is a prop of a node or an edge; nothing if it has none.
func PropGet(g Graph, v Value, name string) Value {
	n, okGraph := netOf(g)
	t, okValue := termOf(v)
	if !okGraph || !okValue {
		return Value{}
	}
	return n.prop(t, name)
}

// PropSet sets a prop of a node or an edge; nothing takes it away.
func PropSet(g Graph, v Value, name string, to Value) (Graph, bool) {
	n, okGraph := netOf(g)
	if !okGraph {
		return Graph{}, false
	}
	t, okValue := termOf(v)
	set := okValue && n.setProp(t, name, to)
	return n.graph(), set
}

// LabelSet gives a node a label, or takes it away.
func LabelSet(g Graph, id int, label string, has bool) (Graph, bool) {
	n, ok := netOf(g)
	if !ok {
		return Graph{}, false
	}
	set := n.setLabel(id, label, has)
	return n.graph(), set
}

// NodesWith is numbers of all nodes with a label; all, if it is empty.
func NodesWith(g Graph, label string) []int {
	n, ok := netOf(g)
	if !ok {
		return nil
	}
	return n.nodesWith(label)
}

// EdgesOf is numbers of all edges of a node: out of it (1), into it (-1), either (0); of a kind, if that is not empty.
func EdgesOf(g Graph, id int, way int, kind string) []int {
	n, ok := netOf(g)
	if !ok {
		return nil
	}
	return n.edgesOf(id, way, kind)
}

func isLetter(c byte) bool {
	return ('a' <= c && c <= 'z') || ('A' <= c && c <= 'Z')
}

// isKept says whether a text is a word of the language of questions, and so never a name.
func isKept(s string) bool {
	switch s {
	case "MATCH", "OPTIONAL", "WHERE", "UNWIND", "WITH", "RETURN", "CREATE", "SET", "DELETE", "DETACH",
		"AS", "AND", "OR", "NOT", "IS", "NULL", "IN", "DISTINCT", "ORDER", "BY", "DESC", "SKIP", "LIMIT",
		"null", "true", "false", "count", "sum", "size":
		return true
	}
	return false
}

// table is rows by their numbers, ascending, and the next number.
type table[T any] struct {
	ids  []int
	rows map[int]T
	next int
}

func newTable[T any](next int) table[T] {
	return table[T]{rows: map[int]T{}, next: next}
}

func (t *table[T]) has(id int) bool {
	_, ok := t.rows[id]
	return ok
}

// put lays a row behind all others; false, if its number is not above theirs, or not below the next one.
func (t *table[T]) put(id int, row T) bool {
	last := -1
	if len(t.ids) > 0 {
		last = t.ids[len(t.ids)-1]
	}
	if id <= last || id >= t.next {
		return false
	}
	t.ids = append(t.ids, id)
	t.rows[id] = row
	return true
}

// hasRoom says whether there may be one more row, of limit, with a number of its own.
func (t *table[T]) hasRoom(limit int) bool {
	return len(t.ids) < limit && t.next < NumMax
}

// change puts what is made of a row in its place; false, and it stays as it was, if there is none, or nothing can be made of it.
func (t *table[T]) change(id int, remake func(row T) (T, bool)) bool {
	row, there := t.rows[id]
	if !there {
		return false
	}
	row, ok := remake(row)
	if ok {
		t.rows[id] = row
	}
	return ok
}

func (t *table[T]) drop(id int) {
	t.ids = without(t.ids, id)
	delete(t.rows, id)
}

func (t *table[T]) list() []T {
	var rows []T
	for _, id := range t.ids {
		rows = append(rows, t.rows[id])
	}
	return rows
}

// without is a list less one that is in it; the list is the caller's own to be written into.
func without(list []int, one int) []int {
	return slices.DeleteFunc(list, func(id int) bool { return id == one })
}

// net is a graph that is ok, in memory of its own: nodes and edges by number, and beside them the edges out of each node, and into it, ascending.
type net struct {
	nodes table[Node]
	edges table[Edge]
	out   map[int][]int
	into  map[int][]int
}

// netOf copies a graph; false, if it is not ok.
func netOf(g Graph) (*net, bool) {
	if len(g.Nodes) > NodeMax || len(g.Edges) > EdgeMax || !isNext(g.NextNode) || !isNext(g.NextEdge) {
		return nil, false
	}
	n := &net{nodes: newTable[Node](g.NextNode), edges: newTable[Edge](g.NextEdge), out: map[int][]int{}, into: map[int][]int{}}
	for _, node := range g.Nodes {
		if !n.putNode(node) {
			return nil, false
		}
	}
	for _, edge := range g.Edges {
		if !n.putEdge(edge) {
			return nil, false
		}
	}
	return n, true
}

func isNext(num int) bool {
	return 0 <= num && num <= NumMax
}

// graph hands the net's own memory out: it is asked once, when all is done.
func (n *net) graph() Graph {
	return Graph{Nodes: n.nodes.list(), Edges: n.edges.list(), NextNode: n.nodes.next, NextEdge: n.edges.next}
}

func (n *net) putNode(node Node) bool {
	labels, okLabels := labelsOf(node.Labels)
	props, okProps := propsOf(node.Props)
	return okLabels && okProps && n.nodes.put(node.Id, Node{Id: node.Id, Labels: labels, Props: props})
}

func (n *net) putEdge(edge Edge) bool {
	props, ok := propsOf(edge.Props)
	if !ok || !NameOk(edge.Kind) || !n.nodes.has(edge.From) || !n.nodes.has(edge.To) {
		return false
	}
	edge.Props = props
	if !n.edges.put(edge.Id, edge) {
		return false
	}
	n.out[edge.From] = append(n.out[edge.From], edge.Id)
	n.into[edge.To] = append(n.into[edge.To], edge.Id)
	return true
}

// labelsOf copies labels; false, if they are not ok.
func labelsOf(labels []string) ([]string, bool) {
	if len(labels) > LabelMax {
		return nil, false
	}
	var list []string
	for i, label := range labels {
		if !NameOk(label) || (i > 0 && labels[i-1] >= label) {
			return nil, false
		}
		list = append(list, label)
	}
	return list, true
}

// propsOf copies props; false, if they are not ok.
func propsOf(props []Prop) ([]Prop, bool) {
	if len(props) > PropMax {
		return nil, false
	}
	var list []Prop
	for i, p := range props {
		v, ok := propValue(p.Value)
		if !ok || !NameOk(p.Name) || (i > 0 && props[i-1].Name >= p.Name) {
			return nil, false
		}
		list = append(list, Prop{Name: p.Name, Value: v})
	}
	return list, true
}

// propValue copies a value; false, if it is not ok, or may be no prop.
func propValue(v Value) (Value, bool) {
	t, ok := termOf(v)
	if !ok || !mayBeProp(t) {
		return Value{}, false
	}
	return t.value(), true
}

func mayBeProp(t term) bool {
	switch x := t.(type) {
	case nullTerm, nodeTerm, edgeTerm:
		return false
	case listTerm:
		return !slices.ContainsFunc(x, func(one term) bool { return !mayBeProp(one) })
	default:
		return true
	}
}

func (n *net) addNode(labels []string, props []Prop) (int, bool) {
	if !n.nodes.hasRoom(NodeMax) {
		return 0, false
	}
	id := n.nodes.next
	n.nodes.next++
	if !n.putNode(Node{Id: id, Labels: labels, Props: props}) {
		n.nodes.next--
		return 0, false
	}
	return id, true
}

func (n *net) addEdge(kind string, from int, to int, props []Prop) (int, bool) {
	if !n.edges.hasRoom(EdgeMax) {
		return 0, false
	}
	id := n.edges.next
	n.edges.next++
	if !n.putEdge(Edge{Id: id, Kind: kind, From: from, To: to, Props: props}) {
		n.edges.next--
		return 0, false
	}
	return id, true
}

func (n *net) dropNode(id int, detach bool) bool {
	held := n.edgesOf(id, 0, "")
	if !n.nodes.has(id) || (len(held) > 0 && !detach) {
		return false
	}
	for _, edge := range held {
		n.dropEdge(edge)
	}
	n.nodes.drop(id)
	return true
}

func (n *net) dropEdge(id int) bool {
	edge, ok := n.edges.rows[id]
	if !ok {
		return false
	}
	n.out[edge.From] = without(n.out[edge.From], id)
	n.into[edge.To] = without(n.into[edge.To], id)
	n.edges.drop(id)
	return true
}

func (n *net) prop(of term, name string) Value {
	switch x := of.(type) {
	case nodeTerm:
		return propOf(n.nodes.rows[int(x)].Props, name)
	case edgeTerm:
		return propOf(n.edges.rows[int(x)].Props, name)
	default:
		return Value{}
	}
}

// propOf is what props have under a name; nothing, if there is none.
func propOf(props []Prop, name string) Value {
	at, ok := placeOf(props, name)
	if !ok {
		return Value{}
	}
	return props[at].Value
}

// placeOf is where a name stands in props, or would stand; and whether it is there.
func placeOf(props []Prop, name string) (int, bool) {
	return slices.BinarySearchFunc(props, name, func(p Prop, name string) int { return strings.Compare(p.Name, name) })
}

func (n *net) setProp(of term, name string, to Value) bool {
	switch x := of.(type) {
	case nodeTerm:
		return n.nodes.change(int(x), func(node Node) (Node, bool) {
			props, ok := withProp(node.Props, name, to)
			node.Props = props
			return node, ok
		})
	case edgeTerm:
		return n.edges.change(int(x), func(edge Edge) (Edge, bool) {
			props, ok := withProp(edge.Props, name, to)
			edge.Props = props
			return edge, ok
		})
	default:
		return false
	}
}

func (n *net) setLabel(id int, label string, has bool) bool {
	return n.nodes.change(id, func(node Node) (Node, bool) {
		labels, ok := withLabel(node.Labels, label, has)
		node.Labels = labels
		return node, ok
	})
}

// withProp is props with a value under a name, or without the name, if that is nothing; false, if these are not ok.
func withProp(props []Prop, name string, to Value) ([]Prop, bool) {
	if !NameOk(name) || !ValueOk(to) {
		return nil, false
	}
	at, there := placeOf(props, name)
	var put []Prop
	if to.Kind != IsNull {
		put = []Prop{{Name: name, Value: to}}
	}
	return propsOf(replaced(props, at, there, put))
}

// withLabel is labels with one, or without it; false, if these are not ok.
func withLabel(labels []string, label string, has bool) ([]string, bool) {
	if !NameOk(label) {
		return nil, false
	}
	at, there := slices.BinarySearch(labels, label)
	var put []string
	if has {
		put = []string{label}
	}
	return labelsOf(replaced(labels, at, there, put))
}

// replaced is a new list with others at a place, instead of what is there already.
func replaced[T any](list []T, at int, there bool, put []T) []T {
	end := at
	if there {
		end++
	}
	return slices.Concat(list[:at], put, list[end:])
}

func (n *net) nodesWith(label string) []int {
	var ids []int
	for _, id := range n.nodes.ids {
		if hasLabel(n.nodes.rows[id], label) {
			ids = append(ids, id)
		}
	}
	return ids
}

// hasLabel says whether a node has a label; each has the empty one.
func hasLabel(node Node, label string) bool {
	return label == "" || slices.Contains(node.Labels, label)
}

func (n *net) edgesOf(id int, way int, kind string) []int {
	var all []int
	if way == 1 || way == 0 {
		all = append(all, n.out[id]...)
	}
	if way == -1 || way == 0 {
		all = append(all, n.into[id]...)
	}
	slices.Sort(all)
	var ids []int
	for _, edge := range slices.Compact(all) {
		if kind == "" || n.edges.rows[edge].Kind == kind {
			ids = append(ids, edge)
		}
	}
	return ids
}
