package tests

import (
	"slices"
	"strings"
	"testing"

	"loop.example/ashlar/impl"
)

// expr is the expression that a text tells.
func expr(t *testing.T, s string) impl.Expr {
	t.Helper()
	e, ok := impl.ExprGet(s)
	if !ok {
		t.Fatalf("%q is no expression", s)
	}
	return e
}

func cell(name string, v impl.Value) impl.Cell { return impl.Cell{Name: name, Value: v} }
func value(v impl.Value) impl.Expr             { return impl.Expr{Kind: impl.ExprValue, Value: v} }
func variable(name string) impl.Expr           { return impl.Expr{Kind: impl.ExprVar, Name: name} }
func ofParts(kind int, parts ...impl.Expr) impl.Expr {
	return impl.Expr{Kind: kind, Parts: parts}
}

// Kinds of expressions, by how many parts they have.
var (
	oneParts = []int{impl.ExprNot, impl.ExprNull, impl.ExprSize, impl.ExprSum}
	twoParts = []int{impl.ExprEqual, impl.ExprLess, impl.ExprAnd, impl.ExprOr, impl.ExprAdd, impl.ExprIn}
)

// isPlain says whether a value has no node and no edge within.
func isPlain(v impl.Value) bool {
	return v.Kind != impl.IsNode && v.Kind != impl.IsEdge && !slices.ContainsFunc(v.List, func(one impl.Value) bool { return !isPlain(one) })
}

func plainValues() []impl.Value {
	return slices.DeleteFunc(ascendingValues(), func(v impl.Value) bool { return !isPlain(v) })
}

// makeExpr is an expression that is ok, of names that are handed in, and at most so many within each other.
func makeExpr(d *dice, names []string, totals bool, deep int) impl.Expr {
	kind := d.roll(15) + 1
	isTotal := kind == impl.ExprCount || kind == impl.ExprSum
	isOne, isTwo := slices.Contains(oneParts, kind), slices.Contains(twoParts, kind)
	isName := kind == impl.ExprVar || kind == impl.ExprProp
	if deep == 1 && (isOne || isTwo) || isTotal && !totals || isName && len(names) == 0 {
		kind = impl.ExprValue
	}
	e := impl.Expr{Kind: kind}
	switch {
	case kind == impl.ExprValue:
		all := plainValues()
		e.Value = all[d.roll(len(all))]
	case isName:
		e.Name = names[d.roll(len(names))]
		if kind == impl.ExprProp {
			e.Key = []string{"n", "name", "zZ9"}[d.roll(3)]
		}
	case kind == impl.ExprParam:
		e.Name = []string{"p", "q", "longname"}[d.roll(3)]
	case isOne:
		e.Parts = []impl.Expr{makeExpr(d, names, totals, deep-1)}
	case isTwo:
		e.Parts = []impl.Expr{makeExpr(d, names, totals, deep-1), makeExpr(d, names, totals, deep-1)}
	}
	return e
}

func someExprs(t *testing.T, count int) []impl.Expr {
	d := dice(7)
	var all []impl.Expr
	for i := range count {
		e := makeExpr(&d, []string{"a", "b1", "longname", "x"}, true, 1+i%impl.ExprMax)
		if !impl.ExprOk(e) {
			t.Fatalf("not ok: %+v", e)
		}
		all = append(all, e)
	}
	return all
}

// exprHoldsItself is an expression whose parts are all itself.
func exprHoldsItself(kind int, size int) impl.Expr {
	e := ofParts(kind, make([]impl.Expr, size)...)
	for i := range e.Parts {
		e.Parts[i] = e
	}
	return e
}

// wrongExprs is expressions that are not ok, for each reason that there is.
func wrongExprs() []impl.Expr {
	return append(endingExprs(), exprHoldsItself(impl.ExprNot, 1), exprHoldsItself(impl.ExprAnd, 2), value(holdsItself(2)), ofParts(impl.ExprNot, value(holdsItself(1))))
}

// endingExprs is those of wrongExprs that do not hold themselves.
func endingExprs() []impl.Expr {
	a, deep := variable("a"), variable("a")
	for range impl.ExprMax {
		deep = ofParts(impl.ExprNot, deep)
	}
	wrong := []impl.Expr{
		{}, {Kind: -1}, {Kind: 16}, {Kind: 1 << 40}, {Name: "a"}, {Kind: impl.ExprVar}, {Kind: impl.ExprParam}, {Kind: impl.ExprProp}, {Kind: impl.ExprProp, Name: "a"}, {Kind: impl.ExprProp, Key: "a"},
		value(nodeRef(0)), value(edgeRef(0)), value(list(nodeRef(1))), value(list(num(1), list(edgeRef(1)))),
		deep, ofParts(impl.ExprEqual, a, deep.Parts[0]), ofParts(impl.ExprSum, deep.Parts[0]),
	}
	for _, v := range wrongValues()[:len(wrongValues())-2] {
		wrong = append(wrong, value(v), ofParts(impl.ExprNot, value(v)))
	}
	for _, s := range noNames {
		wrong = append(wrong, variable(s), impl.Expr{Kind: impl.ExprParam, Name: s}, impl.Expr{Kind: impl.ExprProp, Name: s, Key: "a"}, impl.Expr{Kind: impl.ExprProp, Name: "a", Key: s}, ofParts(impl.ExprAdd, a, variable(s)))
	}
	for _, kind := range oneParts {
		wrong = append(wrong, ofParts(kind), ofParts(kind, a, a), ofParts(kind, impl.Expr{}))
	}
	for _, kind := range twoParts {
		wrong = append(wrong, ofParts(kind), ofParts(kind, a), ofParts(kind, a, a, a), ofParts(kind, a, impl.Expr{}), ofParts(kind, impl.Expr{}, a))
	}
	return wrong
}

// everyKind is one expression of each kind.
func everyKind() []impl.Expr {
	all := []impl.Expr{value(num(1)), variable("a"), {Kind: impl.ExprProp, Name: "a", Key: "n"}, {Kind: impl.ExprParam, Name: "p"}, {Kind: impl.ExprCount}}
	for _, kind := range oneParts {
		all = append(all, ofParts(kind, variable("a")))
	}
	for _, kind := range twoParts {
		all = append(all, ofParts(kind, variable("a"), value(num(1))))
	}
	return all
}

func TestExprOkMeetsLimits(t *testing.T) {
	deep := variable("a")
	for range impl.ExprMax - 1 {
		deep = ofParts(impl.ExprOr, deep, deep)
	}
	fine := append(everyKind(), deep, impl.Expr{Kind: impl.ExprProp, Name: "abcdefgh", Key: "A2345678"}, impl.Expr{Kind: impl.ExprCount, Parts: []impl.Expr{}})
	for _, v := range plainValues() {
		fine = append(fine, value(v))
	}
	for _, e := range fine {
		if !impl.ExprOk(e) {
			t.Errorf("ok: %+v", e)
		}
	}
	for i, e := range wrongExprs() {
		if impl.ExprOk(e) {
			t.Errorf("not ok: %d", i)
		}
	}
}

func TestExprOkAllElseIsNothing(t *testing.T) {
	for _, e := range everyKind() {
		var spoilt []impl.Expr
		more := func(spoil func(e *impl.Expr)) {
			other := tidy(e)
			spoil(&other)
			spoilt = append(spoilt, other)
		}
		if e.Kind != impl.ExprValue {
			more(func(e *impl.Expr) { e.Value = num(1) })
			more(func(e *impl.Expr) { e.Value.Num = 1 })
			more(func(e *impl.Expr) { e.Value.Text = "x" })
			more(func(e *impl.Expr) { e.Value.List = []impl.Value{{}} })
		}
		if e.Name == "" {
			more(func(e *impl.Expr) { e.Name = "a" })
		}
		if e.Key == "" {
			more(func(e *impl.Expr) { e.Key = "a" })
		}
		more(func(e *impl.Expr) { e.Parts = append(e.Parts, variable("a")) })
		for _, other := range spoilt {
			if impl.ExprOk(other) || impl.ExprPut(other) != "" {
				t.Errorf("not ok: %+v", other)
			}
		}
	}
}

func sameWords(words []string, ok bool, want []string) bool {
	return ok && slices.Equal(words, want)
}

// Promise 6: a name is one word.
func TestPromise6NameIsOneWord(t *testing.T) {
	for _, s := range []string{"a", "Z", "a1", "abcdefgh", "A2345678", "match", "Null"} {
		for _, around := range []string{s, " " + s, s + "\n", "\t" + s + " "} {
			if words, ok := impl.Words(around); !sameWords(words, ok, []string{s}) {
				t.Errorf("%q: %q %v", around, words, ok)
			}
		}
		if !impl.NameOk(s) || impl.NameOk(s+" ") || impl.NameOk(" "+s) || impl.NameOk("9"+s) || impl.NameOk("9"+s[:1]) {
			t.Errorf("%q with more", s)
		}
		if words, ok := impl.Words("9" + s); !sameWords(words, ok, []string{"9" + s}) {
			t.Errorf("9%s: %q", s, words)
		}
	}
}

func TestPromise6WhatIsNoNameIsNoExpression(t *testing.T) {
	for _, s := range []string{"9a", "abcdefghi", "a_b", "MATCH", "NULL", "AS", "size", "ä"} {
		for _, text := range []string{s, "$" + s, "a." + s, s + ".a"} {
			if e, ok := impl.ExprGet(text); ok {
				t.Errorf("%q is read: %+v", text, e)
			}
		}
	}
}

var wordTexts = map[string][]string{
	"":                     nil,
	" \t\n ":               nil,
	"a":                    {"a"},
	"ab12 34cd 5":          {"ab12", "34cd", "5"},
	"()[]{},.:=<>+-$*":     {"(", ")", "[", "]", "{", "}", ",", ".", ":", "=", "<", ">", "+", "-", "$", "*"},
	"a.b":                  {"a", ".", "b"},
	"-12":                  {"-", "12"},
	"''":                   {"''"},
	"'a b'c":               {"'a b'", "c"},
	"''''":                 {"''", "''"},
	"a'b'1":                {"a", "'b'", "1"},
	"'\n\x00\xff$\r'x":     {"'\n\x00\xff$\r'", "x"},
	"(NOT(a))":             {"(", "NOT", "(", "a", ")", ")"},
	"<-[e:K]->":            {"<", "-", "[", "e", ":", "K", "]", "-", ">"},
	"MATCH\t(a)\nRETURN a": {"MATCH", "(", "a", ")", "RETURN", "a"},
	"abcdefghijklmnopqrst": {"abcdefghijklmnopqrst"},
}

// Promise 18: words of a text, with blanks between, have the same words.
func TestPromise18WordsWithBlanksBetween(t *testing.T) {
	for text, want := range wordTexts {
		words, ok := impl.Words(text)
		if !sameWords(words, ok, want) {
			t.Errorf("%q: %q %v", text, words, ok)
		}
		for _, between := range []string{" ", "\t", "\n", " \n\t "} {
			if again, ok := impl.Words(between + strings.Join(words, between) + between); !sameWords(again, ok, want) {
				t.Errorf("%q, with %q between: %q %v", text, between, again, ok)
			}
		}
	}
}

func TestPromise18WordsOfTwoTexts(t *testing.T) {
	for one, first := range wordTexts {
		for two, second := range wordTexts {
			if words, ok := impl.Words(one + "\n" + two); !sameWords(words, ok, slices.Concat(first, second)) {
				t.Errorf("%q and %q: %q %v", one, two, words, ok)
			}
		}
	}
}

func TestPromise18WhatIsNoWord(t *testing.T) {
	for c := range 256 {
		s := string([]byte{byte(c)})
		letter := 'a' <= c && c <= 'z' || 'A' <= c && c <= 'Z' || '0' <= c && c <= '9'
		between := s == " " || s == "\t" || s == "\n"
		fine := letter || between || strings.Contains("()[]{},.:=<>+-$*", s)
		for _, text := range []string{s, "a " + s, s + " a", "a\n" + s + "\na"} {
			if words, ok := impl.Words(text); ok != fine || !ok && len(words) != 0 {
				t.Errorf("%q: %q %v", text, words, ok)
			}
		}
	}
	for _, text := range []string{"'", "a '", "'a", "'a''", "''' a", "a b ?", "a \r b", "ä", "a\x00", "a;b", "#1", "@1", "a_b", "\"a\"", strings.Repeat("'", 100001)} {
		if words, ok := impl.Words(text); ok || len(words) != 0 {
			t.Errorf("%.20q: %q %v", text, words, ok)
		}
	}
	if words, ok := impl.Words(strings.Repeat("(", 100000)); !ok || len(words) != 100000 {
		t.Errorf("%d words %v", len(words), ok)
	}
}

// Promise 19: an expression is read back from its text.
func TestPromise19ExpressionIsReadBack(t *testing.T) {
	for _, e := range append(everyKind(), someExprs(t, 4000)...) {
		s := impl.ExprPut(e)
		if got, ok := impl.ExprGet(s); !ok || !same(got, e) {
			t.Fatalf("%+v from %q is %+v %v", e, s, got, ok)
		}
		words, ok := impl.Words(s)
		for _, between := range []string{" ", "\n", "\t\t"} {
			if got, read := impl.ExprGet(strings.Join(words, between)); !ok || !read || !same(got, e) {
				t.Fatalf("%q, with %q between", s, between)
			}
		}
	}
	for i, e := range wrongExprs() {
		if s := impl.ExprPut(e); s != "" {
			t.Errorf("wrong expression %d is written %q", i, s)
		}
	}
}

func TestPromise19ExpressionIsWrittenAsTold(t *testing.T) {
	a, n, p := variable("a"), impl.Expr{Kind: impl.ExprProp, Name: "a", Key: "n"}, impl.Expr{Kind: impl.ExprParam, Name: "p"}
	for s, e := range map[string]impl.Expr{
		"null": value(null()), "true": value(yes()), "-5": value(num(-5)), "1000000000": value(num(impl.NumMax)), "'a  b'": value(text("a  b")), "[]": value(list()), "[1, [null, 'x'], -2]": value(list(num(1), list(null(), text("x")), num(-2))),
		"a": a, "a.n": n, "$p": p, "(a = $p)": ofParts(impl.ExprEqual, a, p), "(a < 1)": ofParts(impl.ExprLess, a, value(num(1))), "(a AND a.n)": ofParts(impl.ExprAnd, a, n), "(a OR a.n)": ofParts(impl.ExprOr, a, n), "(a + -1)": ofParts(impl.ExprAdd, a, value(num(-1))), "(a IN [])": ofParts(impl.ExprIn, a, value(list())),
		"(NOT a)": ofParts(impl.ExprNot, a), "(a.n IS NULL)": ofParts(impl.ExprNull, n), "size(a)": ofParts(impl.ExprSize, a), "sum(a.n)": ofParts(impl.ExprSum, n), "count(*)": {Kind: impl.ExprCount},
		"(NOT ((a + 1) IS NULL))": ofParts(impl.ExprNot, ofParts(impl.ExprNull, ofParts(impl.ExprAdd, a, value(num(1))))), "(size('x') < sum((a = count(*))))": ofParts(impl.ExprLess, ofParts(impl.ExprSize, value(text("x"))), ofParts(impl.ExprSum, ofParts(impl.ExprEqual, a, impl.Expr{Kind: impl.ExprCount}))),
	} {
		got, ok := impl.ExprGet(s)
		if impl.ExprPut(e) != s || !ok || !same(got, e) {
			t.Errorf("%q: %q, %+v %v", s, impl.ExprPut(e), got, ok)
		}
	}
	for s, want := range map[string]string{"[1,2]": "[1, 2]", "- 3": "-3", " a . n ": "a.n", "$ p": "$p", "(NOT(a=b))": "(NOT (a = b))", "('a'IN['a' , 'b'])": "('a' IN ['a', 'b'])", "count ( * )": "count(*)", "(a IS\nNULL)": "(a IS NULL)", "[ ]": "[]"} {
		if got, ok := impl.ExprGet(s); !ok || impl.ExprPut(got) != want {
			t.Errorf("%q: %q %v", s, impl.ExprPut(got), ok)
		}
	}
}

func TestPromise19NothingElseIsRead(t *testing.T) {
	for _, s := range []string{
		"", " ", "(", ")", "()", "(a)", "((a))", "(a b)", "(a = b", "a = b", "(a = b))", "(a = b) c", "a b", "a a", "(a == b)", "(a > b)", "(a - b)", "(a and b)", "(a = b = c)", "(= b)", "(a =)", "(a = = b)",
		"(NOT)", "NOT a", "(NOT a b)", "(not a)", "(a NOT b)", "(NOT a", "(a IS)", "(a NULL)", "(a IS NULL", "(a IS NOT NULL)", "(a IS null)", "(IS NULL)", "a IS NULL",
		"a.", ".a", "a.n.m", "a..n", "a.1", "1.a", "a.NULL", "$", "$1", "$$p", "$p.n", "$'p'", "$null", "p$",
		"size", "size()", "size(a, b)", "size a", "size(a", "sum", "sum()", "sum(*)", "sum(a b)", "count", "count()", "count(a)", "count(*", "count(**)", "count*", "count(1)", "size(*)",
		"01", "-0", "-", "--1", "- - 1", "-a", "-'a'", "-[1]", "-null", "+1", "1000000001", "-1000000001", "99999999999999999999999", "1a", "1 2", "'a' 'b'", "'abcdefghijklmnopq'", "'a\nb'", "'\x7f'", "NULL", "#1", "@1", "[#1]", "?",
		"[", "]", "[1", "[1 2]", "[,]", "[1,]", "[,1]", "[a]", "[$p]", "[(1 + 2)]", "[1, 2, 3, 4, 5, 6, 7]", "[[[1]]]", "[[[[]]]]", "[1]]", "{}", "*", "a:b", "a,b",
		"(NOT (NOT (NOT (NOT a))))", "size(size(size(size(a))))", "(a = (a = (a = (a = a))))", "((((a = a) = a) = a) = a)",
		strings.Repeat("(", 100000), strings.Repeat("[", 100000), strings.Repeat("(NOT ", 100000), strings.Repeat("size(", 100000), "[" + strings.Repeat("1, ", 100000) + "1]", strings.Repeat("a", 100000), strings.Repeat("9", 100000), "-" + strings.Repeat("9", 100000),
	} {
		if e, ok := impl.ExprGet(s); ok || !same(e, impl.Expr{}) {
			t.Errorf("%.30q is read: %+v", s, e)
		}
	}
	if e, ok := impl.ExprGet("(NOT (NOT (NOT a)))"); !ok || impl.ExprPut(e) != "(NOT (NOT (NOT a)))" {
		t.Error("as many within each other as may be")
	}
}

// spoilText hands on texts that are a text with a word more, less or another one.
func spoilText(s string, words []string, do func(spoilt string)) {
	all, _ := impl.Words(s)
	for i := range len(all) + 1 {
		for _, word := range words {
			do(strings.Join(slices.Concat(all[:i], []string{word}, all[i:]), " "))
			if i < len(all) {
				do(strings.Join(slices.Concat(all[:i], []string{word}, all[i+1:]), " "))
			}
		}
		if i < len(all) {
			do(strings.Join(slices.Concat(all[:i], all[i+1:]), " "))
		}
	}
}

func TestPromise19WhatIsReadIsReadBack(t *testing.T) {
	read, refused := 0, 0
	for _, e := range someExprs(t, 300) {
		spoilText(impl.ExprPut(e), []string{"a", "1", "-", "(", ")", "]", ",", ".", "AND", "NOT", "IS", "null", "''", "$", "*", "size", "+"}, func(s string) {
			got, ok := impl.ExprGet(s)
			if !ok {
				refused++
				if !same(got, impl.Expr{}) {
					t.Fatalf("%q is refused as %+v", s, got)
				}
				return
			}
			read++
			again, back := impl.ExprGet(impl.ExprPut(got))
			words, _ := impl.Words(s)
			put, _ := impl.Words(impl.ExprPut(got))
			if !impl.ExprOk(got) || !back || !same(again, got) || !slices.Equal(words, put) {
				t.Fatalf("%q is read as %+v", s, got)
			}
		})
	}
	if read < 1000 || refused < 1000 {
		t.Errorf("%d read, %d refused", read, refused)
	}
}

func TestExprNames(t *testing.T) {
	for s, want := range map[string][]string{
		"1": nil, "$p": nil, "count(*)": nil, "a": {"a"}, "a.n": {"a"}, "(b = a)": {"a", "b"}, "((b.n + a) < (b = $p))": {"a", "b"}, "sum((x.a + A1))": {"A1", "x"}, "((aa = a) AND (a.aa IN ab))": {"a", "aa", "ab"}, "(NOT (c IS NULL))": {"c"}, "'a'": nil,
	} {
		if got := impl.ExprNames(expr(t, s)); !slices.Equal(got, want) {
			t.Errorf("%s: %v", s, got)
		}
	}
	for i, e := range wrongExprs() {
		if got := impl.ExprNames(e); len(got) != 0 {
			t.Errorf("wrong expression %d: %v", i, got)
		}
	}
}

// evalRow is names of all kinds of values, of a graph that is smallGraph.
func evalRow() []impl.Cell {
	return []impl.Cell{
		cell("a", nodeRef(1)), cell("b1", edgeRef(0)), cell("x", num(7)), cell("longname", text("abc")), cell("z", null()), cell("y", yes()), cell("no", no()),
		cell("l", list(num(1), null(), num(7))), cell("gone", nodeRef(3)), cell("goneE", edgeRef(1)),
	}
}

func evalGiven() []impl.Cell {
	return []impl.Cell{cell("p", text("p")), cell("q", list(num(7))), cell("longname", null()), cell("x", num(1))}
}

type evalCase struct {
	text string
	want string
	code int
}

func checkEval(t *testing.T, cases []evalCase) {
	t.Helper()
	for _, c := range cases {
		got, code := impl.ExprEval(smallGraph(), evalRow(), evalGiven(), expr(t, c.text))
		if impl.ValuePut(got) != c.want || code != c.code {
			t.Errorf("%s: %s %d, not %s %d", c.text, impl.ValuePut(got), code, c.want, c.code)
		}
	}
}

func TestExprEvalOfNames(t *testing.T) {
	checkEval(t, []evalCase{
		{"1", "1", 0}, {"[1, [null]]", "[1, [null]]", 0}, {"x", "7", 0}, {"z", "null", 0}, {"a", "#1", 0}, {"$p", "'p'", 0}, {"$x", "1", 0}, {"$longname", "null", 0},
		{"none", "null", impl.ErrName}, {"p", "null", impl.ErrName}, {"$a", "null", impl.ErrName}, {"none.n", "null", impl.ErrName}, {"p.n", "null", impl.ErrName},
		{"a.n", "3", 0}, {"a.o", "[1, 'x']", 0}, {"a.m", "null", 0}, {"b1.w", "1", 0}, {"b1.n", "null", 0}, {"z.n", "null", 0}, {"gone.n", "null", 0}, {"goneE.w", "null", 0},
		{"x.n", "null", impl.ErrType}, {"longname.n", "null", impl.ErrType}, {"l.n", "null", impl.ErrType}, {"y.n", "null", impl.ErrType},
	})
}

func TestExprEvalOfParts(t *testing.T) {
	checkEval(t, []evalCase{
		{"(a = a)", "true", 0}, {"(a = gone)", "false", 0}, {"(a = b1)", "false", 0}, {"(x = z)", "null", 0}, {"(l = l)", "null", 0}, {"(l = [2, 1, 7])", "false", 0}, {"(x = '7')", "false", 0},
		{"(x < 8)", "true", 0}, {"(x < 7)", "false", 0}, {"(x < z)", "null", 0}, {"(x < 'a')", "null", 0}, {"(a < gone)", "null", 0}, {"(l < l)", "null", 0}, {"(no < y)", "true", 0}, {"(longname < 'abd')", "true", 0},
		{"(x IN l)", "true", 0}, {"(1 IN l)", "true", 0}, {"(2 IN l)", "null", 0}, {"(2 IN $q)", "false", 0}, {"(z IN $q)", "null", 0}, {"(z IN [])", "false", 0}, {"(x IN [])", "false", 0}, {"(x IN z)", "null", 0}, {"(z IN z)", "null", 0}, {"([1, null] IN [[1, 2]])", "null", 0}, {"([1, null] IN [[2, 2], 1])", "false", 0}, {"(7 IN [null, 7])", "true", 0}, {"(7 IN [7, null])", "true", 0},
		{"(x IN x)", "null", impl.ErrType}, {"('a' IN longname)", "null", impl.ErrType}, {"(z IN y)", "null", impl.ErrType}, {"(x IN a)", "null", impl.ErrType}, {"(x IN b1)", "null", impl.ErrType},
		{"size(l)", "3", 0}, {"size([])", "0", 0}, {"size('')", "0", 0}, {"size(longname)", "3", 0}, {"size('abcdefghijklmnop')", "16", 0}, {"size(z)", "null", 0}, {"size(x)", "null", impl.ErrType}, {"size(y)", "null", impl.ErrType}, {"size(a)", "null", impl.ErrType}, {"size(b1)", "null", impl.ErrType},
		{"(z IS NULL)", "true", 0}, {"(x IS NULL)", "false", 0}, {"(l IS NULL)", "false", 0}, {"([null] IS NULL)", "false", 0}, {"(a.m IS NULL)", "true", 0}, {"(no IS NULL)", "false", 0},
		{"count(*)", "null", impl.ErrType}, {"sum(x)", "null", impl.ErrType}, {"sum(none)", "null", impl.ErrType}, {"sum((1000000000 + 1))", "null", impl.ErrType}, {"(x = count(*))", "null", impl.ErrType},
	})
}

func TestExprEvalOfSums(t *testing.T) {
	checkEval(t, []evalCase{
		{"(x + 1)", "8", 0}, {"(999999999 + 1)", "1000000000", 0}, {"(1000000000 + 1)", "null", impl.ErrNum}, {"(-999999999 + -1)", "-1000000000", 0}, {"(-1000000000 + -1)", "null", impl.ErrNum}, {"(1000000000 + 1000000000)", "null", impl.ErrNum},
		{"(longname + 'd')", "'abcd'", 0}, {"('abcdefgh' + 'ijklmnop')", "'abcdefghijklmnop'", 0}, {"('abcdefgh' + 'ijklmnopq')", "null", impl.ErrNum},
		{"(l + $q)", "[1, null, 7, 7]", 0}, {"([1, 2, 3] + [4, 5, 6])", "[1, 2, 3, 4, 5, 6]", 0}, {"([1, 2, 3, 4] + l)", "null", impl.ErrNum}, {"([[1]] + [[]])", "[[1], []]", 0},
		{"(x + z)", "null", 0}, {"(z + x)", "null", 0}, {"(z + y)", "null", 0}, {"(a + z)", "null", 0}, {"(z + z)", "null", 0},
		{"(x + 'a')", "null", impl.ErrType}, {"('a' + x)", "null", impl.ErrType}, {"(l + x)", "null", impl.ErrType}, {"(x + l)", "null", impl.ErrType}, {"(longname + l)", "null", impl.ErrType}, {"(y + no)", "null", impl.ErrType}, {"(a + a)", "null", impl.ErrType}, {"(b1 + 1)", "null", impl.ErrType},
	})
}

func TestExprEvalTellsTheFirstCode(t *testing.T) {
	checkEval(t, []evalCase{
		{"(false AND none)", "null", impl.ErrName}, {"(true OR none)", "null", impl.ErrName}, {"(false AND x)", "null", impl.ErrType}, {"(x OR true)", "null", impl.ErrType}, {"(z + none)", "null", impl.ErrName}, {"(x AND none)", "null", impl.ErrName},
		{"(x.n = none)", "null", impl.ErrType}, {"(none = x.n)", "null", impl.ErrName}, {"((1000000000 + 1) = x.n)", "null", impl.ErrNum}, {"(x.n = (1000000000 + 1))", "null", impl.ErrType}, {"($none = count(*))", "null", impl.ErrName}, {"(count(*) = $none)", "null", impl.ErrType},
		{"((1000000000 + 1) IN x)", "null", impl.ErrNum}, {"(NOT size(none))", "null", impl.ErrName}, {"(x + (NOT x))", "null", impl.ErrType}, {"(none IS NULL)", "null", impl.ErrName},
	})
}

func TestExprEvalOfTruth(t *testing.T) {
	and := map[string]string{"true true": "true", "true false": "false", "true null": "null", "false false": "false", "false null": "false", "null null": "null"}
	or := map[string]string{"true true": "true", "true false": "true", "true null": "true", "false false": "false", "false null": "null", "null null": "null"}
	for pair, want := range and {
		a, b, _ := strings.Cut(pair, " ")
		checkEval(t, []evalCase{{"(" + a + " AND " + b + ")", want, 0}, {"(" + b + " AND " + a + ")", want, 0}, {"(" + a + " OR " + b + ")", or[pair], 0}, {"(" + b + " OR " + a + ")", or[pair], 0}})
	}
	checkEval(t, []evalCase{{"(NOT true)", "false", 0}, {"(NOT false)", "true", 0}, {"(NOT null)", "null", 0}})
	for _, s := range []string{"0", "1", "'true'", "[]", "[true]", "a", "b1"} {
		for _, other := range []string{"true", "false", "null"} {
			checkEval(t, []evalCase{{"(NOT " + s + ")", "null", impl.ErrType}, {"(" + s + " AND " + other + ")", "null", impl.ErrType}, {"(" + other + " AND " + s + ")", "null", impl.ErrType}, {"(" + s + " OR " + other + ")", "null", impl.ErrType}, {"(" + other + " OR " + s + ")", "null", impl.ErrType}})
		}
	}
}

func TestExprEvalOfWhatIsNotOk(t *testing.T) {
	g, row, given, e := smallGraph(), evalRow(), evalGiven(), variable("x")
	refused := func(what string, g impl.Graph, row []impl.Cell, given []impl.Cell, e impl.Expr) {
		t.Helper()
		if v, code := impl.ExprEval(g, row, given, e); code != impl.ErrForm || !same(v, null()) {
			t.Errorf("%s: %s %d", what, impl.ValuePut(v), code)
		}
	}
	for name, wrong := range wrongGraphs() {
		refused(name, wrong, row, given, e)
		refused(name, wrong, nil, nil, value(num(1)))
	}
	for _, wrong := range wrongExprs() {
		refused("expression", g, row, given, wrong)
	}
	var cells [][]impl.Cell
	for _, s := range noNames {
		cells = append(cells, []impl.Cell{cell(s, num(1))})
	}
	for _, v := range wrongValues() {
		cells = append(cells, []impl.Cell{cell("r", v)})
	}
	cells = append(cells, []impl.Cell{cell("r", num(1)), cell("s", num(1)), cell("r", num(1))})
	for _, wrong := range cells {
		refused("row", g, slices.Concat(row, wrong), given, e)
		refused("given", g, row, slices.Concat(given, wrong), e)
		refused("row, nothing asked", g, wrong, nil, expr(t, "none"))
	}
	if v, code := impl.ExprEval(impl.Graph{}, nil, nil, value(num(1))); code != impl.ErrNone || !same(v, num(1)) {
		t.Errorf("nothing at all: %d", code)
	}
}

// Promise 20: an expression asks for no names but its own.
func TestPromise20ExpressionAsksForItsOwnNames(t *testing.T) {
	worked := 0
	for _, e := range someExprs(t, 3000) {
		names := impl.ExprNames(e)
		v, code := impl.ExprEval(smallGraph(), evalRow(), evalGiven(), e)
		own := slices.DeleteFunc(evalRow(), func(c impl.Cell) bool { return !slices.Contains(names, c.Name) })
		slices.Reverse(own)
		less, codeLess := impl.ExprEval(smallGraph(), own, evalGiven(), e)
		if !impl.ValueOk(v) || !same(v, less) || code != codeLess || code != impl.ErrNone && !same(v, null()) {
			t.Fatalf("%s: %s %d, and %s %d", impl.ExprPut(e), impl.ValuePut(v), code, impl.ValuePut(less), codeLess)
		}
		if code == impl.ErrNone {
			worked++
			if len(names) > 0 {
				if _, without := impl.ExprEval(smallGraph(), own[1:], evalGiven(), e); without != impl.ErrName {
					t.Fatalf("%s without %s: %d", impl.ExprPut(e), own[0].Name, without)
				}
			}
		}
	}
	if worked < 500 {
		t.Errorf("%d without a code", worked)
	}
}

// Promise 84: what is given and not asked for changes nothing.
func TestPromise84MoreIsGiven(t *testing.T) {
	for _, e := range someExprs(t, 1500) {
		v, code := impl.ExprEval(smallGraph(), evalRow(), evalGiven(), e)
		for _, more := range []impl.Cell{cell("more", num(1)), cell("a", list(nodeRef(9))), cell("none", null())} {
			for _, given := range [][]impl.Cell{append(evalGiven(), more), append([]impl.Cell{more}, evalGiven()...)} {
				if w, other := impl.ExprEval(smallGraph(), evalRow(), given, e); !same(v, w) || code != other {
					t.Fatalf("%s: %s %d, and %s %d", impl.ExprPut(e), impl.ValuePut(v), code, impl.ValuePut(w), other)
				}
			}
		}
	}
}

// evalBy is what an expression of u and v is, these being values.
func evalBy(t *testing.T, s string, u impl.Value, v impl.Value) (impl.Value, int) {
	t.Helper()
	return impl.ExprEval(smallGraph(), []impl.Cell{cell("u", u), cell("v", v)}, nil, expr(t, s))
}

func wantBy(t *testing.T, s string, u impl.Value, v impl.Value, want impl.Value) {
	t.Helper()
	if got, code := evalBy(t, s, u, v); code != impl.ErrNone || !same(got, want) {
		t.Errorf("%s of %s and %s: %s %d, not %s", s, impl.ValuePut(u), impl.ValuePut(v), impl.ValuePut(got), code, impl.ValuePut(want))
	}
}

// Promise 21: not both is one not, or the other one not.
func TestPromise21NotBoth(t *testing.T) {
	for _, u := range []impl.Value{yes(), no(), null()} {
		wantBy(t, "(NOT (NOT u))", u, null(), u)
		or, and := yes(), no()
		if u.Kind == impl.IsNull {
			or, and = null(), null()
		}
		wantBy(t, "(u OR (NOT u))", u, null(), or)
		wantBy(t, "(u AND (NOT u))", u, null(), and)
		for _, v := range []impl.Value{yes(), no(), null()} {
			for one, two := range map[string]string{"(NOT (u AND v))": "((NOT u) OR (NOT v))", "(NOT (u OR v))": "((NOT u) AND (NOT v))"} {
				got, _ := evalBy(t, one, u, v)
				wantBy(t, two, u, v, got)
			}
		}
	}
}

// Promise 22: something is nothing, or equal to itself as far as that is known.
func TestPromise22EqualToItself(t *testing.T) {
	for _, u := range ascendingValues() {
		isNull, equal := no(), yes()
		if u.Kind == impl.IsNull {
			isNull = yes()
		}
		if hasNothing(u) {
			equal = null()
		}
		wantBy(t, "(u IS NULL)", u, null(), isNull)
		wantBy(t, "(u = u)", u, null(), equal)
		for _, v := range ascendingValues() {
			wantBy(t, "(u = v)", u, v, impl.ValueEqual(u, v))
		}
	}
}

// Promise 23: each of a list is in it.
func TestPromise23EachOfAListIsInIt(t *testing.T) {
	for _, v := range ascendingValues() {
		if v.Kind != impl.IsList {
			continue
		}
		wantBy(t, "size(v)", null(), v, num(len(v.List)))
		for _, one := range v.List {
			want := yes()
			if hasNothing(one) {
				want = null()
			}
			wantBy(t, "(u IN v)", one, v, want)
		}
		if !hasNothing(v) {
			wantBy(t, "(u IN v)", text("not there"), v, no())
		}
	}
}

// Promise 24: what is added to nothing, to no text or to no list is that.
func TestPromise24WhatIsAddedToNothing(t *testing.T) {
	for _, u := range ascendingValues() {
		wantBy(t, "(u + v)", u, null(), null())
		wantBy(t, "(v + u)", u, null(), null())
		for _, v := range []impl.Value{num(0), text(""), list()} {
			if u.Kind == v.Kind {
				wantBy(t, "(u + v)", u, v, u)
				wantBy(t, "(v + u)", u, v, u)
			} else if u.Kind != impl.IsNull {
				if got, code := evalBy(t, "(u + v)", u, v); code != impl.ErrType || !same(got, null()) {
					t.Errorf("%s and %s: %d", impl.ValuePut(u), impl.ValuePut(v), code)
				}
			}
		}
	}
	for _, u := range []impl.Value{yes(), no()} {
		for _, v := range []impl.Value{yes(), no()} {
			if got, code := evalBy(t, "(u + v)", u, v); code != impl.ErrType || !same(got, null()) {
				t.Errorf("%s and %s: %d", impl.ValuePut(u), impl.ValuePut(v), code)
			}
		}
	}
}

// Promise 25: something is not less than itself.
func TestPromise25NotLessThanItself(t *testing.T) {
	for _, u := range ascendingValues() {
		want := null()
		if u.Kind == impl.IsNum || u.Kind == impl.IsText || u.Kind == impl.IsBool {
			want = no()
		}
		wantBy(t, "(u < u)", u, null(), want)
		wantBy(t, "(u < v)", u, null(), null())
		wantBy(t, "(v < u)", u, null(), null())
		for _, v := range ascendingValues() {
			wantBy(t, "(u < v)", u, v, impl.ValueLess(u, v))
		}
	}
}
