// Package impl: a graph that is asked by patterns.
package impl

import (
	"cmp"
	"strconv"
	"strings"
)

// Limits of values.
const (
	TextMax = 16
	ListMax = 6
	DeepMax = 3
	NumMax  = 1000000000
)

// Kinds of values.
const (
	IsNull = 0
	IsBool = 1
	IsNum  = 2
	IsText = 3
	IsList = 4
	IsNode = 5
	IsEdge = 6
)

// Value is nothing, yes or no (Num 1 or 0), a number, a text, a list, a node, or an edge (by its number).
type Value struct {
	Kind int
	Num  int
	Text string
	List []Value
}

// ValueOk says whether a value is ok.
func ValueOk(v Value) bool {
	_, ok := termOf(v)
	return ok
}

// ValueSame says whether two values are the same in all.
func ValueSame(a Value, b Value) bool {
	x, okX := termOf(a)
	y, okY := termOf(b)
	if okX != okY {
		return false
	}
	if okX {
		return x.order(y) == 0
	}
	return sameInAll(a, b)
}

// ValueOrder says which of two values is first: -1, 0 or 1; nothing is last.
func ValueOrder(a Value, b Value) int {
	x, okX := termOf(a)
	y, okY := termOf(b)
	if !okX || !okY {
		return 0
	}
	return x.order(y)
}

// ValueEqual is whether two values are equal: yes, no, or nothing, if that cannot be known.
func ValueEqual(a Value, b Value) Value {
	x, okX := termOf(a)
	y, okY := termOf(b)
	if !okX || !okY {
		return Value{}
	}
	return equalTerms(x, y).value()
}

// ValueLess is whether one value is less than another one: yes, no, or nothing, if they are not of one kind.
func ValueLess(a Value, b Value) Value {
	x, okX := termOf(a)
	y, okY := termOf(b)
	if !okX || !okY {
		return Value{}
	}
	return lessTerms(x, y).value()
}

// ValuePut writes a value.
func ValuePut(v Value) string {
	t, ok := termOf(v)
	if !ok {
		return ""
	}
	return t.put()
}

// ValueGet reads a value.
func ValueGet(text string) (Value, bool) {
	t, rest, ok := readTerm(text, DeepMax)
	if !ok || rest != "" {
		return Value{}, false
	}
	return t.value(), true
}

// term is a value that is ok, with a type of its own for each kind.
type term interface {
	order(other term) int
	put() string
	value() Value
}

type (
	nullTerm struct{}
	boolTerm int
	numTerm  int
	textTerm string
	listTerm []term
	nodeTerm int
	edgeTerm int
)

// rankOf is the place of a term's kind among all kinds.
func rankOf(t term) int {
	switch t.(type) {
	case nodeTerm:
		return 0
	case edgeTerm:
		return 1
	case listTerm:
		return 2
	case textTerm:
		return 3
	case boolTerm:
		return 4
	case numTerm:
		return 5
	default:
		return 6
	}
}

func orderKinds(a term, b term) int {
	return cmp.Compare(rankOf(a), rankOf(b))
}

func (n nullTerm) order(other term) int {
	return orderKinds(n, other)
}

func (b boolTerm) order(other term) int {
	if o, ok := other.(boolTerm); ok {
		return cmp.Compare(b, o)
	}
	return orderKinds(b, other)
}

func (n numTerm) order(other term) int {
	if o, ok := other.(numTerm); ok {
		return cmp.Compare(n, o)
	}
	return orderKinds(n, other)
}

func (s textTerm) order(other term) int {
	if o, ok := other.(textTerm); ok {
		return cmp.Compare(s, o)
	}
	return orderKinds(s, other)
}

func (l listTerm) order(other term) int {
	if o, ok := other.(listTerm); ok {
		return orderLists(l, o)
	}
	return orderKinds(l, other)
}

func (n nodeTerm) order(other term) int {
	if o, ok := other.(nodeTerm); ok {
		return cmp.Compare(n, o)
	}
	return orderKinds(n, other)
}

func (e edgeTerm) order(other term) int {
	if o, ok := other.(edgeTerm); ok {
		return cmp.Compare(e, o)
	}
	return orderKinds(e, other)
}

func orderLists(a listTerm, b listTerm) int {
	for i := 0; i < len(a) && i < len(b); i++ {
		if c := a[i].order(b[i]); c != 0 {
			return c
		}
	}
	return cmp.Compare(len(a), len(b))
}

func (n nullTerm) put() string {
	return "null"
}

func (b boolTerm) put() string {
	if b == 1 {
		return "true"
	}
	return "false"
}

func (n numTerm) put() string {
	return strconv.Itoa(int(n))
}

func (s textTerm) put() string {
	return "'" + string(s) + "'"
}

func (l listTerm) put() string {
	parts := make([]string, len(l))
	for i, t := range l {
		parts[i] = t.put()
	}
	return "[" + strings.Join(parts, ", ") + "]"
}

func (n nodeTerm) put() string {
	return "#" + strconv.Itoa(int(n))
}

func (e edgeTerm) put() string {
	return "@" + strconv.Itoa(int(e))
}

func (n nullTerm) value() Value {
	return Value{}
}

func (b boolTerm) value() Value {
	return Value{Kind: IsBool, Num: int(b)}
}

func (n numTerm) value() Value {
	return Value{Kind: IsNum, Num: int(n)}
}

func (s textTerm) value() Value {
	return Value{Kind: IsText, Text: string(s)}
}

func (l listTerm) value() Value {
	var list []Value
	for _, t := range l {
		list = append(list, t.value())
	}
	return Value{Kind: IsList, List: list}
}

func (n nodeTerm) value() Value {
	return Value{Kind: IsNode, Num: int(n)}
}

func (e edgeTerm) value() Value {
	return Value{Kind: IsEdge, Num: int(e)}
}

func truth(yes bool) boolTerm {
	if yes {
		return 1
	}
	return 0
}

// termOf is a value as a term, in memory of its own; false, if it is not ok.
func termOf(v Value) (term, bool) {
	return termWithin(v, DeepMax)
}

// termWithin counts down how many values may still be within each other, so it ends even if a list holds itself.
func termWithin(v Value, deep int) (term, bool) {
	if deep == 0 || !restIsEmpty(v) {
		return nil, false
	}
	switch v.Kind {
	case IsNull:
		return nullTerm{}, true
	case IsBool:
		return boolTerm(v.Num), v.Num == 0 || v.Num == 1
	case IsNum:
		return numTerm(v.Num), -NumMax <= v.Num && v.Num <= NumMax
	case IsText:
		return textTerm(v.Text), textOk(v.Text)
	case IsList:
		return listWithin(v.List, deep)
	case IsNode:
		return nodeTerm(v.Num), 0 <= v.Num && v.Num <= NumMax
	case IsEdge:
		return edgeTerm(v.Num), 0 <= v.Num && v.Num <= NumMax
	default:
		return nil, false
	}
}

func listWithin(values []Value, deep int) (term, bool) {
	if len(values) > ListMax {
		return nil, false
	}
	list := listTerm{}
	for _, v := range values {
		t, ok := termWithin(v, deep-1)
		if !ok {
			return nil, false
		}
		list = append(list, t)
	}
	return list, true
}

// restIsEmpty says whether a value has nothing but what its kind may have.
func restIsEmpty(v Value) bool {
	hasNum := v.Kind == IsBool || v.Kind == IsNum || v.Kind == IsNode || v.Kind == IsEdge
	return (hasNum || v.Num == 0) && (v.Kind == IsText || v.Text == "") && (v.Kind == IsList || len(v.List) == 0)
}

func textOk(s string) bool {
	if len(s) > TextMax {
		return false
	}
	for i := 0; i < len(s); i++ {
		if s[i] < 32 || s[i] > 126 || s[i] == '\'' {
			return false
		}
	}
	return true
}

// listPair is two lists of one length, by where they lie.
type listPair struct {
	a    *Value
	b    *Value
	size int
}

// sameInAll holds values against each other that are not ok. These may be of any depth, and a list may hold itself: what is still to be asked is kept beside the call stack, and two lists that were met are not asked again.
func sameInAll(a Value, b Value) bool {
	met := map[listPair]int{}
	todo := [][2]Value{{a, b}}
	for len(todo) > 0 {
		x, y := todo[len(todo)-1][0], todo[len(todo)-1][1]
		todo = todo[:len(todo)-1]
		if x.Kind != y.Kind || x.Num != y.Num || x.Text != y.Text || len(x.List) != len(y.List) {
			return false
		}
		if len(x.List) == 0 {
			continue
		}
		pair := listPair{&x.List[0], &y.List[0], len(x.List)}
		if met[pair] > 0 {
			continue
		}
		met[pair] = 1
		for i := range x.List {
			todo = append(todo, [2]Value{x.List[i], y.List[i]})
		}
	}
	return true
}

// equalTerms is yes, no, or nothing, if that cannot be known.
func equalTerms(a term, b term) term {
	switch x := a.(type) {
	case nullTerm:
		return nullTerm{}
	case listTerm:
		if y, ok := b.(listTerm); ok && len(x) == len(y) {
			return equalLists(x, y)
		}
	}
	if _, ok := b.(nullTerm); ok {
		return nullTerm{}
	}
	return truth(a.order(b) == 0)
}

// equalLists goes on behind what is not known: a no further on outweighs it.
func equalLists(a listTerm, b listTerm) term {
	var all term = truth(true)
	for i := range a {
		switch one := equalTerms(a[i], b[i]).(type) {
		case nullTerm:
			all = one
		case boolTerm:
			if one == 0 {
				return one
			}
		}
	}
	return all
}

// lessTerms is yes, no, or nothing, if one kind of terms has no less, or they are of two kinds.
func lessTerms(a term, b term) term {
	switch a.(type) {
	case numTerm, textTerm, boolTerm:
		if orderKinds(a, b) == 0 {
			return truth(a.order(b) < 0)
		}
	}
	return nullTerm{}
}

// readTerm reads the term that a text begins with, and tells what stands behind it.
func readTerm(text string, deep int) (term, string, bool) {
	if deep == 0 || text == "" {
		return nil, "", false
	}
	switch text[0] {
	case '[':
		return readList(text[1:], deep)
	case '\'':
		return readText(text[1:])
	case '#':
		num, rest, ok := readFigures(text[1:])
		return nodeTerm(num), rest, ok
	case '@':
		num, rest, ok := readFigures(text[1:])
		return edgeTerm(num), rest, ok
	case '-':
		num, rest, ok := readFigures(text[1:])
		return numTerm(-num), rest, ok && num != 0
	case 'n':
		rest, ok := strings.CutPrefix(text, "null")
		return nullTerm{}, rest, ok
	case 't':
		rest, ok := strings.CutPrefix(text, "true")
		return truth(true), rest, ok
	case 'f':
		rest, ok := strings.CutPrefix(text, "false")
		return truth(false), rest, ok
	default:
		num, rest, ok := readFigures(text)
		return numTerm(num), rest, ok
	}
}

// readList reads what stands behind the opening bracket.
func readList(text string, deep int) (term, string, bool) {
	list := listTerm{}
	if rest, ok := strings.CutPrefix(text, "]"); ok {
		return list, rest, true
	}
	for len(list) < ListMax {
		t, rest, ok := readTerm(text, deep-1)
		if !ok {
			return nil, "", false
		}
		list = append(list, t)
		if behind, ends := strings.CutPrefix(rest, "]"); ends {
			return list, behind, true
		}
		text, ok = strings.CutPrefix(rest, ", ")
		if !ok {
			return nil, "", false
		}
	}
	return nil, "", false
}

// readText reads what stands behind the opening quote.
func readText(text string) (term, string, bool) {
	s, rest, ok := strings.Cut(text, "'")
	if !ok || !textOk(s) {
		return nil, "", false
	}
	return textTerm(s), rest, true
}

// readFigures reads a number of 0 to NumMax without needless zeros.
func readFigures(text string) (int, string, bool) {
	num, size := 0, 0
	for size < len(text) && isFigure(text[size]) && num <= NumMax {
		num = num*10 + int(text[size]-'0')
		size++
	}
	if size == 0 || num > NumMax || (text[0] == '0' && size > 1) {
		return 0, "", false
	}
	return num, text[size:], true
}

func isFigure(c byte) bool {
	return '0' <= c && c <= '9'
}
