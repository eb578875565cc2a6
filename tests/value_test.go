package tests

import (
	"cmp"
	"math"
	"strings"
	"testing"

	"loop.example/ashlar/impl"
)

func TestValueOkMeetsLimits(t *testing.T) {
	for _, v := range ascendingValues() {
		if !impl.ValueOk(v) {
			t.Errorf("ok: %+v", v)
		}
	}
	for i, v := range wrongValues() {
		if impl.ValueOk(v) {
			t.Errorf("not ok: %d", i)
		}
	}
	for _, n := range []int{math.MinInt, math.MaxInt} {
		if impl.ValueOk(num(n)) || impl.ValueOk(nodeRef(n)) || impl.ValueOk(edgeRef(n)) || impl.ValueOk(impl.Value{Kind: n}) {
			t.Errorf("not ok: %d", n)
		}
	}
	for c := range 256 {
		if impl.ValueOk(text(string([]byte{byte(c)}))) != (c >= 32 && c <= 126 && c != '\'') {
			t.Errorf("byte %d", c)
		}
	}
	if !impl.ValueOk(impl.Value{Kind: impl.IsNum, Num: 1, List: []impl.Value{}}) {
		t.Error("an empty list is no list")
	}
}

// Promise 1: a value is read back from its text.
func TestPromise1ValueIsReadBack(t *testing.T) {
	for _, v := range ascendingValues() {
		got, ok := impl.ValueGet(impl.ValuePut(v))
		if !ok || !same(got, v) {
			t.Errorf("%+v from %q is %+v %v", v, impl.ValuePut(v), got, ok)
		}
	}
	for i, v := range wrongValues() {
		if s := impl.ValuePut(v); s != "" {
			t.Errorf("wrong value %d is written %q", i, s)
		}
	}
}

func TestPromise1ValueIsWrittenAsTold(t *testing.T) {
	for s, v := range map[string]impl.Value{
		"null": null(), "true": yes(), "false": no(), "0": num(0), "-1000000000": num(-impl.NumMax), "1000000000": num(impl.NumMax),
		"''": text(""), "'a, b]'": text("a, b]"), "'null'": text("null"), "[]": list(), "[null]": list(null()), "[1, 'x', [[], #2], @3]": list(num(1), text("x"), list(list(), nodeRef(2)), edgeRef(3)),
		"#0": nodeRef(0), "#1000000000": nodeRef(impl.NumMax), "@0": edgeRef(0), "@1000000000": edgeRef(impl.NumMax),
	} {
		got, ok := impl.ValueGet(s)
		if impl.ValuePut(v) != s || !ok || !same(got, v) {
			t.Errorf("%q: %q, %+v %v", s, impl.ValuePut(v), got, ok)
		}
	}
}

func TestPromise1NothingElseIsRead(t *testing.T) {
	for _, s := range []string{
		"", " ", "nul", "nulll", "null ", " null", "Null", "NULL", "True", "tru", "falsee", "t", "n", "f",
		"-", "-0", "--1", "+1", "00", "01", "-01", "1 ", " 1", "1.0", "1000000001", "-1000000001", "10000000000", "99999999999999999999999999", "0x1",
		"'", "'a", "a'", "'''", "''''", "'a'b", "'a' ", "'abcdefghijklmnopq'", "'\x1f'", "'\x7f'", "'\xc3\xa4'", "'\n'",
		"[", "]", "[]]", "[[]", "[,]", "[1,2]", "[1 , 2]", "[1,  2]", "[1, 2", "[1, ]", "[, 1]", "[ ]", "[1 ]", "[ 1]", "[1]]", "[1] ", "[1][2]", "[[[1]]]", "[[[[]]]]", "[[[null]]]", "[1, 2, 3, 4, 5, 6, 7]",
		"#", "@", "#-1", "@-1", "#01", "@00", "# 1", "#1000000001", "@1000000001", "##1", "#@1", "[#]",
		strings.Repeat("[", 100000), strings.Repeat("9", 100000), strings.Repeat("'", 100000), "[" + strings.Repeat("1, ", 100000),
	} {
		if v, ok := impl.ValueGet(s); ok || !same(v, null()) {
			t.Errorf("%.30q is read: %+v", s, v)
		}
	}
}

func TestPromise1WhatIsReadIsWritten(t *testing.T) {
	bytes := "0129-'[], #@ntx\x00"
	for _, v := range ascendingValues() {
		s := impl.ValuePut(v)
		for i := range len(s) + 1 {
			for _, c := range []byte(bytes) {
				asks := []string{s[:i] + string([]byte{c}) + s[i:]}
				if i < len(s) {
					asks = append(asks, s[:i]+s[i+1:], s[:i]+string([]byte{c})+s[i+1:])
				}
				for _, ask := range asks {
					if got, ok := impl.ValueGet(ask); ok != (impl.ValuePut(got) == ask) && ask != "" || !impl.ValueOk(got) {
						t.Fatalf("%q is read as %+v %v", ask, got, ok)
					}
				}
			}
		}
	}
}

// Promise 2: two values are the same just if all of both is.
func TestPromise2SameIsAllOfBoth(t *testing.T) {
	all := append(ascendingValues(), wrongValues()[:len(wrongValues())-2]...)
	for i, a := range all {
		for k, b := range all {
			if impl.ValueSame(a, b) != (i == k) || impl.ValueSame(tidy(a), b) != (i == k) {
				t.Errorf("%+v and %+v", a, b)
			}
		}
	}
	for _, kind := range []int{-1, impl.IsNull, impl.IsNum, impl.IsList} {
		one := impl.Value{Kind: kind, Num: 5, Text: "it's", List: []impl.Value{num(1), list(num(2), text("abcdefghijklmnopqrs"))}}
		if !impl.ValueSame(one, tidy(one)) {
			t.Errorf("kind %d is not the same as itself", kind)
		}
		for n, spoil := range []func(v *impl.Value){
			func(v *impl.Value) { v.Kind = 9 },
			func(v *impl.Value) { v.Num = 6 },
			func(v *impl.Value) { v.Text = "its" },
			func(v *impl.Value) { v.List = v.List[:1] },
			func(v *impl.Value) { v.List[1].List[0].Num = 3 },
			func(v *impl.Value) { v.List[1].List[1].Text += "t" },
			func(v *impl.Value) { v.List[1].List[1].Num = 1 },
			func(v *impl.Value) { v.List[1].List = append(v.List[1].List, impl.Value{}) },
		} {
			other := tidy(one)
			spoil(&other)
			if impl.ValueSame(one, other) || impl.ValueSame(other, one) {
				t.Errorf("kind %d, %d is the same", kind, n)
			}
		}
	}
	if !impl.ValueSame(impl.Value{Kind: 9, List: []impl.Value{}}, impl.Value{Kind: 9}) || !impl.ValueSame(list(), impl.Value{Kind: impl.IsList, List: []impl.Value{}}) {
		t.Error("no list and an empty one are the same")
	}
}

func TestPromise2SameEndsWhateverItIsGiven(t *testing.T) {
	one, two, three := holdsItself(2), holdsItself(2), holdsItself(3)
	if !impl.ValueSame(one, one) || !impl.ValueSame(one, two) || impl.ValueSame(one, three) || impl.ValueSame(three, one) || impl.ValueSame(one, list(one, num(1))) {
		t.Error("lists that hold themselves")
	}
	if !impl.ValueSame(one, list(one, one)) {
		t.Error("a list that holds itself, once unfolded")
	}
	deep, other, wide := num(1), num(2), num(1)
	for range 1000000 {
		deep, other = list(deep), list(other)
	}
	for range 200 {
		wide = list(wide, wide)
	}
	if !impl.ValueSame(deep, deep) || impl.ValueSame(deep, other) || impl.ValueOk(deep) || !impl.ValueSame(wide, wide) {
		t.Error("lists of great depth")
	}
}

// Promise 3: of two values one is first, or they are the same.
func TestPromise3OneIsFirst(t *testing.T) {
	all := ascendingValues()
	for i, a := range all {
		for k, b := range all {
			if got := impl.ValueOrder(a, b); got != cmp.Compare(i, k) {
				t.Errorf("%s and %s: %d", impl.ValuePut(a), impl.ValuePut(b), got)
			}
		}
	}
}

func TestPromise3OrderOfWhatIsNotOk(t *testing.T) {
	for i, w := range wrongValues() {
		for _, v := range []impl.Value{null(), num(1), nodeRef(0), w} {
			if impl.ValueOrder(v, w) != 0 || impl.ValueOrder(w, v) != 0 {
				t.Errorf("wrong value %d and %+v", i, v)
			}
		}
	}
}

func hasNothing(v impl.Value) bool {
	for _, one := range v.List {
		if hasNothing(one) {
			return true
		}
	}
	return v.Kind == impl.IsNull
}

// Promise 4: values without nothing within are equal just if they are the same.
func TestPromise4EqualJustIfTheSame(t *testing.T) {
	all := ascendingValues()
	for i, a := range all {
		for k, b := range all {
			got := impl.ValueEqual(a, b)
			if !same(got, impl.ValueEqual(b, a)) {
				t.Errorf("%s and %s: not so the other way round", impl.ValuePut(a), impl.ValuePut(b))
			}
			if hasNothing(a) || hasNothing(b) {
				if same(got, yes()) {
					t.Errorf("%s and %s: yes", impl.ValuePut(a), impl.ValuePut(b))
				}
				continue
			}
			if want := map[bool]impl.Value{true: yes(), false: no()}[i == k]; !same(got, want) {
				t.Errorf("%s and %s: %s", impl.ValuePut(a), impl.ValuePut(b), impl.ValuePut(got))
			}
		}
	}
}

func TestPromise4NothingWithin(t *testing.T) {
	for _, c := range []struct{ a, b, want impl.Value }{
		{null(), null(), null()}, {null(), num(1), null()}, {null(), list(), null()}, {list(null()), null(), null()},
		{list(null()), list(null()), null()}, {list(null()), list(num(1)), null()}, {list(num(1), null()), list(num(1), num(2)), null()},
		{list(null(), num(1)), list(null(), num(2)), no()}, {list(num(1), null()), list(num(2), null()), no()}, {list(null(), num(2), null()), list(num(1), num(3), num(1)), no()},
		{list(null()), list(), no()}, {list(null()), list(null(), null()), no()}, {list(null()), num(1), no()}, {list(list(null())), list(num(1)), no()},
		{list(list(null())), list(list(num(1))), null()}, {list(list(null()), num(1)), list(list(num(1)), num(1)), null()}, {list(list(null()), num(1)), list(list(num(1)), num(2)), no()}, {list(list(null(), num(1)), null()), list(list(num(1), num(2)), null()), no()},
	} {
		if got := impl.ValueEqual(c.a, c.b); !same(got, c.want) || !same(impl.ValueEqual(c.b, c.a), c.want) {
			t.Errorf("%s and %s: %s", impl.ValuePut(c.a), impl.ValuePut(c.b), impl.ValuePut(got))
		}
	}
	for i, w := range wrongValues() {
		for _, v := range []impl.Value{null(), num(1), list(), w} {
			if !same(impl.ValueEqual(v, w), null()) || !same(impl.ValueEqual(w, v), null()) {
				t.Errorf("wrong value %d and %+v", i, v)
			}
		}
	}
}

// Promise 5: of two values of one kind one is less, or neither is.
func TestPromise5LessWithinOneKind(t *testing.T) {
	all := ascendingValues()
	for i, a := range all {
		for k, b := range all {
			want := null()
			if a.Kind == b.Kind && (a.Kind == impl.IsNum || a.Kind == impl.IsText || a.Kind == impl.IsBool) {
				want = map[bool]impl.Value{true: yes(), false: no()}[i < k]
			}
			if got := impl.ValueLess(a, b); !same(got, want) {
				t.Errorf("%s and %s: %s", impl.ValuePut(a), impl.ValuePut(b), impl.ValuePut(got))
			}
		}
	}
	for i, w := range wrongValues() {
		for _, v := range []impl.Value{num(1), text("a"), yes(), w} {
			if !same(impl.ValueLess(v, w), null()) || !same(impl.ValueLess(w, v), null()) {
				t.Errorf("wrong value %d and %+v", i, v)
			}
		}
	}
}

// Promise 75: a list is in order by its first values.
func TestPromise75ListsAreInOrderByFirstValues(t *testing.T) {
	var flat []impl.Value
	for _, v := range ascendingValues() {
		if impl.ValueOk(list(v)) {
			flat = append(flat, v)
		}
	}
	for i, a := range flat {
		for k, b := range flat {
			want := cmp.Compare(i, k)
			for _, c := range [][2]impl.Value{{list(a), list(b)}, {list(num(1), a), list(num(1), b)}, {list(null(), list(), a), list(null(), list(), b)}} {
				if impl.ValueOrder(c[0], c[1]) != want {
					t.Errorf("%s and %s", impl.ValuePut(c[0]), impl.ValuePut(c[1]))
				}
			}
			if want != 0 && impl.ValueOrder(list(a, num(1), num(1)), list(b)) != want {
				t.Errorf("%s and %s, one of them longer", impl.ValuePut(a), impl.ValuePut(b))
			}
		}
	}
}
