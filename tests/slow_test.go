package tests

import (
	"slices"
	"strings"
	"testing"

	"loop.example/ashlar/impl"
)

// slow does questions a second way, by the words of the document alone: lists of rows, clause by clause, and graphs that are changed by what chapter 2 exports.
type slow struct {
	g     impl.Graph
	given []impl.Cell
}

// slowFault is a code that ends it.
type slowFault int

func must(is bool, code int) {
	if !is {
		panic(slowFault(code))
	}
}

// slowly is the code with which something ends.
func slowly(do func()) (code int) {
	defer func() {
		switch f := recover().(type) {
		case nil:
		case slowFault:
			code = int(f)
		default:
			panic(f)
		}
	}()
	do()
	return 0
}

func slowMatches(g impl.Graph, row []impl.Cell, given []impl.Cell, paths []impl.Path) ([][]impl.Cell, int) {
	s, ways := &slow{g, given}, [][]impl.Cell(nil)
	if code := slowly(func() { ways = s.match(nil, row, paths) }); code != 0 {
		return nil, code
	}
	return ways, 0
}

func slowRun(g impl.Graph, rules []impl.Rule, q []impl.Clause, given []impl.Cell) (impl.Graph, impl.Table, int) {
	s, rows := &slow{g, given}, [][]impl.Cell{nil}
	code := slowly(func() {
		for _, c := range q {
			rows = s.clause(rows, c)
		}
		must(impl.RulesHold(s.g, rules), impl.ErrRule)
	})
	if code != 0 {
		return g, impl.Table{}, code
	}
	t := impl.Table{Names: impl.QueryNames(q)}
	if len(t.Names) > 0 {
		t.Rows = valuesOf(rows)
	}
	return s.g, t, 0
}

func valuesOf(rows [][]impl.Cell) [][]impl.Value {
	var all [][]impl.Value
	for _, row := range rows {
		var values []impl.Value
		for _, c := range row {
			values = append(values, c.Value)
		}
		all = append(all, values)
	}
	return all
}

func under(row []impl.Cell, name string) (impl.Value, bool) {
	for _, c := range row {
		if c.Name == name {
			return c.Value, true
		}
	}
	return null(), false
}

// add is a new row with one cell more, if the name is one, and is not there.
func add(row []impl.Cell, name string, v impl.Value) []impl.Cell {
	if _, there := under(row, name); there || name == "" {
		return row
	}
	return append(slices.Clone(row), cell(name, v))
}

func (s *slow) eval(row []impl.Cell, e impl.Expr) impl.Value {
	v, code := impl.ExprEval(s.g, row, s.given, e)
	must(code == 0, code)
	return v
}

func (s *slow) clause(rows [][]impl.Cell, c impl.Clause) [][]impl.Cell {
	if c.Kind == impl.ClauseWith || c.Kind == impl.ClauseReturn {
		return s.columns(rows, c)
	}
	var out [][]impl.Cell
	for _, row := range rows {
		switch c.Kind {
		case impl.ClauseMatch:
			out = s.match(out, row, c.Paths)
		case impl.ClauseOptional:
			before := len(out)
			if out = s.match(out, row, c.Paths); len(out) == before {
				out = append(out, addNothing(row, c.Paths))
			}
		case impl.ClauseWhere:
			v := s.eval(row, c.Expr)
			must(v.Kind == impl.IsBool || v.Kind == impl.IsNull, impl.ErrType)
			if v.Num == 1 {
				out = append(out, row)
			}
		case impl.ClauseUnwind:
			v := s.eval(row, c.Expr)
			must(v.Kind == impl.IsList || v.Kind == impl.IsNull, impl.ErrType)
			for _, one := range v.List {
				out = append(out, add(row, c.Name, one))
				must(len(out) <= impl.RowMax, impl.ErrMany)
			}
		case impl.ClauseCreate:
			out = append(out, s.create(row, c.Paths))
		default:
			s.change(row, c)
			out = append(out, row)
		}
		must(len(out) <= impl.RowMax, impl.ErrMany)
	}
	return out
}

func addNothing(row []impl.Cell, paths []impl.Path) []impl.Cell {
	for _, p := range paths {
		row = add(row, p.Spot.Name, null())
		for _, h := range p.Hops {
			row = add(add(row, h.Name, null()), h.Spot.Name, null())
		}
	}
	return row
}

// match puts all ways behind a list.
func (s *slow) match(out [][]impl.Cell, row []impl.Cell, paths []impl.Path) [][]impl.Cell {
	s.path(row, paths, nil, func(way []impl.Cell) {
		out = append(out, way)
		must(len(out) <= impl.RowMax, impl.ErrMany)
	})
	return out
}

func (s *slow) path(row []impl.Cell, paths []impl.Path, had []int, tell func(way []impl.Cell)) {
	if len(paths) == 0 {
		tell(row)
		return
	}
	for _, id := range impl.NodesWith(s.g, "") {
		if s.fits(row, paths[0].Spot, id) {
			s.hops(add(row, paths[0].Spot.Name, nodeRef(id)), id, paths[0].Hops, paths[1:], had, tell)
		}
	}
}

func (s *slow) hops(row []impl.Cell, from int, hops []impl.Hop, rest []impl.Path, had []int, tell func(way []impl.Cell)) {
	if len(hops) == 0 {
		s.path(row, rest, had, tell)
		return
	}
	h := hops[0]
	for _, id := range impl.EdgesOf(s.g, from, h.Way, h.Kind) {
		if slices.Contains(had, id) {
			continue
		}
		at := slices.IndexFunc(s.g.Edges, func(e impl.Edge) bool { return e.Id == id })
		end := s.g.Edges[at].From + s.g.Edges[at].To - from
		next := add(row, h.Name, edgeRef(id))
		if s.fits(next, h.Spot, end) {
			s.hops(add(next, h.Spot.Name, nodeRef(end)), end, hops[1:], rest, append(slices.Clone(had), id), tell)
		}
	}
}

func (s *slow) fits(row []impl.Cell, spot impl.Spot, id int) bool {
	if v, there := under(row, spot.Name); there && !impl.ValueSame(v, nodeRef(id)) {
		return false
	}
	if !slices.Contains(impl.NodesWith(s.g, spot.Label), id) {
		return false
	}
	for _, p := range spot.Props {
		if !impl.ValueSame(impl.ValueEqual(s.eval(row, p.Expr), impl.PropGet(s.g, nodeRef(id), p.Name)), yes()) {
			return false
		}
	}
	return true
}

// mayBeProp says whether a value may be a prop, by trying to make one of it.
func mayBeProp(v impl.Value) bool {
	_, _, ok := impl.NodeAdd(impl.Graph{}, nil, []impl.Prop{prop("n", v)})
	return ok
}

func (s *slow) isThere(v impl.Value) bool {
	return v.Kind == impl.IsNode && slices.Contains(nodeIds(s.g), v.Num) || v.Kind == impl.IsEdge && slices.Contains(edgeIds(s.g), v.Num)
}

func (s *slow) create(row []impl.Cell, paths []impl.Path) []impl.Cell {
	for _, p := range paths {
		next, last := s.spot(row, p.Spot)
		row = next
		for _, h := range p.Hops {
			next, id := s.spot(row, h.Spot)
			from, to := last, id
			if h.Way < 0 {
				from, to = id, last
			}
			g, edge, ok := impl.EdgeAdd(s.g, h.Kind, from, to, nil)
			must(ok, impl.ErrFull)
			s.g, row, last = g, add(next, h.Name, edgeRef(edge)), id
		}
	}
	return row
}

func (s *slow) spot(row []impl.Cell, spot impl.Spot) ([]impl.Cell, int) {
	if v, there := under(row, spot.Name); there {
		must(v.Kind == impl.IsNode && s.isThere(v), impl.ErrType)
		return row, v.Num
	}
	byName := map[string]impl.Value{}
	var all []string
	for _, p := range spot.Props {
		v := s.eval(row, p.Expr)
		must(v.Kind == impl.IsNull || mayBeProp(v), impl.ErrType)
		if v.Kind != impl.IsNull {
			byName[p.Name], all = v, append(all, p.Name)
		}
	}
	slices.Sort(all)
	var labels []string
	if spot.Label != "" {
		labels = []string{spot.Label}
	}
	var made []impl.Prop
	for _, name := range all {
		made = append(made, prop(name, byName[name]))
	}
	g, id, ok := impl.NodeAdd(s.g, labels, made)
	must(ok, impl.ErrFull)
	s.g = g
	return add(row, spot.Name, nodeRef(id)), id
}

// change does SET or DELETE in a row.
func (s *slow) change(row []impl.Cell, c impl.Clause) {
	for _, to := range c.Tos {
		v := s.eval(row, to.Expr)
		of, _ := under(row, to.Name)
		if of.Kind == impl.IsNull {
			continue
		}
		must((of.Kind == impl.IsNode || of.Kind == impl.IsEdge) && (v.Kind == impl.IsNull || mayBeProp(v)), impl.ErrType)
		if s.isThere(of) {
			g, ok := impl.PropSet(s.g, of, to.Key, v)
			must(ok, impl.ErrFull)
			s.g = g
		}
	}
	for _, name := range c.Names {
		v, _ := under(row, name)
		must(v.Kind == impl.IsNull || v.Kind == impl.IsNode || v.Kind == impl.IsEdge, impl.ErrType)
		if !s.isThere(v) {
			continue
		}
		ok := true
		if v.Kind == impl.IsEdge {
			s.g, _ = impl.EdgeDrop(s.g, v.Num)
		} else {
			s.g, ok = impl.NodeDrop(s.g, v.Num, c.Detach)
		}
		must(ok, impl.ErrHeld)
	}
}

func sumsUp(i impl.Item) bool {
	return i.Expr.Kind == impl.ExprCount || i.Expr.Kind == impl.ExprSum
}

func isNoSum(i impl.Item) bool { return !sumsUp(i) }

func (s *slow) columns(rows [][]impl.Cell, c impl.Clause) [][]impl.Cell {
	var lines, totals [][]impl.Value
	any := slices.ContainsFunc(c.Items, sumsUp)
	for _, row := range rows {
		line := make([]impl.Value, len(c.Items))
		for i, item := range c.Items {
			if !sumsUp(item) {
				line[i] = s.eval(row, item.Expr)
			}
		}
		at := slices.IndexFunc(lines, func(other []impl.Value) bool { return any && same(line, other) })
		if at < 0 {
			at, lines, totals = len(lines), append(lines, line), append(totals, beginning(c.Items, line))
		}
		for i, item := range c.Items {
			if sumsUp(item) {
				totals[at][i].Num += s.more(row, item.Expr)
				must(impl.ValueOk(totals[at][i]), impl.ErrNum)
			}
		}
	}
	if len(rows) == 0 && !slices.ContainsFunc(c.Items, isNoSum) {
		totals = [][]impl.Value{beginning(c.Items, make([]impl.Value, len(c.Items)))}
	}
	return namedRows(c, chosenLines(c, totals))
}

// beginning is a line with 0 for what is summed up.
func beginning(items []impl.Item, line []impl.Value) []impl.Value {
	line = slices.Clone(line)
	for i, item := range items {
		if sumsUp(item) {
			line[i] = num(0)
		}
	}
	return line
}

// more is what a row adds to a count or to a sum.
func (s *slow) more(row []impl.Cell, e impl.Expr) int {
	if e.Kind == impl.ExprCount {
		return 1
	}
	v := s.eval(row, e.Parts[0])
	must(v.Kind == impl.IsNull || v.Kind == impl.IsNum, impl.ErrType)
	return v.Num
}

// chosenLines takes the first line that no other one is ahead of, again and again.
func chosenLines(c impl.Clause, lines [][]impl.Value) [][]impl.Value {
	var rest, out [][]impl.Value
	for _, line := range lines {
		if !c.Distinct || !slices.ContainsFunc(rest, func(other []impl.Value) bool { return same(line, other) }) {
			rest = append(rest, line)
		}
	}
	for len(rest) > 0 {
		first := 0
		for i := range rest {
			if isAhead(c, rest[i], rest[first]) {
				first = i
			}
		}
		out = append(out, rest[first])
		rest = slices.Delete(rest, first, first+1)
	}
	out = out[min(max(c.Skip, 0), len(out)):]
	if c.Limit >= 0 {
		out = out[:min(c.Limit, len(out))]
	}
	return out
}

func isAhead(c impl.Clause, a []impl.Value, b []impl.Value) bool {
	for _, o := range c.Orders {
		at := slices.IndexFunc(c.Items, func(i impl.Item) bool { return i.Name == o.Name })
		if order := impl.ValueOrder(a[at], b[at]); order != 0 {
			return (order < 0) != o.Down
		}
	}
	return false
}

func namedRows(c impl.Clause, lines [][]impl.Value) [][]impl.Cell {
	var rows [][]impl.Cell
	for _, line := range lines {
		var row []impl.Cell
		for i, item := range c.Items {
			row = append(row, cell(item.Name, line[i]))
		}
		rows = append(rows, row)
	}
	return rows
}

// speaker makes questions, as texts, that are fine, and seldom go wrong: it knows which names are nodes, edges or others.
type speaker struct {
	d      *dice
	nodes  []string
	edges  []string
	values []string
	next   int
}

func (k *speaker) pick(of ...string) string { return of[k.d.roll(len(of))] }

// sometimes is one of some, or nothing.
func (k *speaker) sometimes(of ...string) string {
	if k.d.roll(2) == 0 {
		return ""
	}
	return k.pick(of...)
}

func (k *speaker) newName() string {
	k.next++
	return k.pick("a", "b", "Z") + string(rune('A'+k.next%26)) + string(rune('a'+k.next/26))
}

func (k *speaker) expr() string {
	all := []string{"1", "2", "'x'", "null", "$p", "true", "[1, 2]", k.pick("3", "3", "3", "$n")}
	for range 2 {
		for _, name := range slices.Concat(k.nodes, k.nodes, k.edges) {
			all = append(all, name+".n", name+".m", "("+name+".n + 1)", "size("+name+".l)")
		}
		all = append(all, k.values...)
	}
	return k.pick(all...)
}

func (k *speaker) truth() string {
	switch k.d.roll(8) {
	case 0, 1:
		return "(" + k.expr() + " = " + k.expr() + ")"
	case 2:
		return "(" + k.expr() + " < " + k.expr() + ")"
	case 3:
		return "(NOT (" + k.expr() + " IS NULL))"
	case 4:
		return "((" + k.expr() + " = 1) OR (" + k.expr() + " < 3))"
	case 5:
		return "((" + k.expr() + " IS NULL) AND true)"
	case 6:
		return "(" + k.expr() + " IN [1, 2, null])"
	}
	return "true"
}

func (k *speaker) props() string {
	switch k.d.roll(8) {
	case 0:
		return " {n: " + k.expr() + "}"
	case 1:
		return " {n: " + k.expr() + ", m: " + k.expr() + "}"
	}
	return ""
}

func (k *speaker) spot() string {
	if len(k.nodes) > 0 && k.d.roll(3) == 0 {
		return "(" + k.pick(k.nodes...) + ")"
	}
	name, rest := "", k.sometimes(":P", ":Q")+k.props()
	if k.d.roll(3) > 0 {
		name = k.newName()
		k.nodes = append(k.nodes, name)
	}
	return "(" + name + rest + ")"
}

func (k *speaker) hop(creates bool) string {
	name, kind := "", ":"+k.pick("K", "L")
	if k.d.roll(2) == 0 {
		name = k.newName()
		k.edges = append(k.edges, name)
	}
	if !creates && k.d.roll(2) == 0 {
		kind = ""
	}
	text := "-[" + name + kind + "]-"
	switch k.d.roll(3) {
	case 0:
		return "<" + text
	case 1:
		if !creates {
			return text
		}
	}
	return text + ">"
}

func (k *speaker) paths(creates bool) string {
	text := ""
	for i := range 1 + k.d.roll(impl.PathMax) {
		if i > 0 {
			text += ", "
		}
		text += k.spot()
		for range k.d.roll(impl.HopMax + 1) {
			text += k.hop(creates) + k.spot()
		}
	}
	return text
}

func (k *speaker) columns() string {
	text, orders := k.sometimes(" DISTINCT"), []string(nil)
	var nodes, edges, values []string
	for i := range 1 + k.d.roll(3) {
		name := k.newName()
		if i > 0 {
			text += ","
		}
		what := k.d.roll(12)
		switch {
		case what == 0:
			text, values = text+" count(*) AS "+name, append(values, name)
		case what == 1:
			text, values = text+" sum("+k.expr()+") AS "+name, append(values, name)
		case what < 7 && len(k.nodes) > 0:
			text, nodes = text+" "+k.pick(k.nodes...)+" AS "+name, append(nodes, name)
		case what < 9 && len(k.edges) > 0:
			text, edges = text+" "+k.pick(k.edges...)+" AS "+name, append(edges, name)
		default:
			text, values = text+" "+k.expr()+" AS "+name, append(values, name)
		}
		if k.d.roll(3) == 0 {
			orders = append(orders, name+k.sometimes(" DESC"))
		}
	}
	k.nodes, k.edges, k.values = nodes, edges, values
	if len(orders) > 0 {
		text += " ORDER BY " + strings.Join(orders, ", ")
	}
	return text + k.pick("", "", " SKIP 1", " SKIP 0") + k.pick("", "", "", " LIMIT 3", " LIMIT 9", " LIMIT 0")
}

func (k *speaker) clause(kind int) string {
	switch kind {
	case impl.ClauseMatch:
		return "MATCH " + k.paths(false)
	case impl.ClauseOptional:
		return "OPTIONAL MATCH " + k.paths(false)
	case impl.ClauseWhere:
		return "WHERE " + k.truth()
	case impl.ClauseUnwind:
		text := "UNWIND " + k.pick("[1, 2]", "[3, 1, 'x']", "[null]", "$l", "$l", "[]", "null", "[[1], [1], [2]]")
		name := k.newName()
		k.values = append(k.values, name)
		return text + " AS " + name
	case impl.ClauseWith:
		return "WITH" + k.columns()
	case impl.ClauseReturn:
		return "RETURN" + k.columns()
	case impl.ClauseCreate:
		return "CREATE " + k.paths(true)
	case impl.ClauseSet:
		text := "SET " + k.pick(slices.Concat(k.nodes, k.edges)...) + k.pick(".n", ".m", ".o") + " = " + k.expr()
		return text + k.sometimes(", "+k.pick(slices.Concat(k.nodes, k.edges, k.values)...)+".n = "+k.expr())
	default:
		return k.pick("", "DETACH ", "DETACH ") + "DELETE " + k.pick(slices.Concat(k.edges, k.nodes)...) + k.sometimes(", "+k.pick(slices.Concat(k.nodes, k.edges, k.values)...))
	}
}

// question is less than so many clauses ahead of one that ends them.
func (k *speaker) question(most int) string {
	text := ""
	for range k.d.roll(most) {
		text += k.clause(k.kind(1, 1, 1, 1, 1, 2, 3, 4, 5, 7, 8, 9)) + " "
	}
	return text + k.clause(k.kind(6, 6, 6, 6, 6, 7, 8, 9))
}

// kind is one of kinds; CREATE, if it needs names, and there are none.
func (k *speaker) kind(kinds ...int) int {
	kind := kinds[k.d.roll(len(kinds))]
	if (kind == impl.ClauseSet || kind == impl.ClauseDelete) && len(k.nodes)+len(k.edges) == 0 {
		return impl.ClauseCreate
	}
	return kind
}

// spokenGiven is what these questions are given; $n is not among it, so that a name is missing now and then.
func spokenGiven() []impl.Cell {
	return []impl.Cell{cell("p", num(2)), cell("l", list(num(2), text("x"), null(), num(2)))}
}

// spoken is a question that was made, and a graph that it is asked of.
type spoken struct {
	text  string
	q     []impl.Clause
	g     impl.Graph
	rules []impl.Rule
}

// runGraph is a graph for questions: small numbers, two labels, two kinds, gaps between numbers.
func runGraph(d *dice) impl.Graph {
	g := impl.Graph{NextNode: d.roll(2), NextEdge: d.roll(2)}
	for range d.roll(impl.NodeMax + 1) {
		node := impl.Node{Id: g.NextNode, Labels: names(d, []string{"P", "Q"}, 2)}
		if d.roll(3) > 0 {
			node.Props = append(node.Props, prop("m", num(d.roll(3))))
		}
		if d.roll(3) > 0 {
			node.Props = append(node.Props, prop("n", []impl.Value{num(1), num(2), num(3), text("x"), list(num(1))}[d.roll(5)]))
		}
		g.Nodes = append(g.Nodes, node)
		g.NextNode += 1 + d.roll(2)
	}
	for range d.roll(impl.EdgeMax + 1) {
		if len(g.Nodes) == 0 {
			break
		}
		e := impl.Edge{Id: g.NextEdge, Kind: []string{"K", "L"}[d.roll(2)], From: g.Nodes[d.roll(len(g.Nodes))].Id, To: g.Nodes[d.roll(len(g.Nodes))].Id}
		if d.roll(2) == 0 {
			e.Props = []impl.Prop{prop("n", num(d.roll(3)))}
		}
		g.Edges = append(g.Edges, e)
		g.NextEdge += 1 + d.roll(2)
	}
	return g
}

func someSpoken(t *testing.T, count int) []spoken {
	t.Helper()
	d := dice(23)
	var all []spoken
	for range count {
		k := speaker{d: &d}
		s := spoken{text: k.question(4), g: runGraph(&d)}
		q, ok := impl.QueryGet(s.text)
		if !ok {
			t.Fatalf("%q is no question", s.text)
		}
		s.q = q
		rules := []impl.Rule{{Label: "P", Name: "o"}, {Label: "Q", Name: "n"}}
		if impl.RulesHold(s.g, rules) {
			s.rules = rules
		}
		all = append(all, s)
	}
	return all
}

func TestRunAsASecondWayDoes(t *testing.T) {
	codes, rows := map[int]int{}, 0
	for _, s := range someSpoken(t, 9000) {
		g, table, code := impl.Run(s.g, s.rules, s.q, spokenGiven())
		wantGraph, wantTable, wantCode := slowRun(s.g, s.rules, s.q, spokenGiven())
		if code != wantCode || !same(g, wantGraph) || !same(table, wantTable) {
			t.Fatalf("%s\nof %s\n%d %q %s\nnot %d %q %s", s.text, show(s.g), code, impl.TablePut(table), show(g), wantCode, impl.TablePut(wantTable), show(wantGraph))
		}
		codes[code]++
		rows += len(table.Rows)
	}
	for _, code := range []int{0, impl.ErrType, impl.ErrName, impl.ErrFull, impl.ErrMany, impl.ErrHeld, impl.ErrRule} {
		if codes[code] < 10 {
			t.Errorf("code %d came %d times", code, codes[code])
		}
	}
	if rows < 2500 {
		t.Errorf("%d rows in all", rows)
	}
}
