package tests

import (
	"slices"
	"testing"

	"loop.example/ashlar/impl"
)

// wrongRules is rules that are not ok.
func wrongRules() [][]impl.Rule {
	all := [][]impl.Rule{
		{{Label: "P", Name: "a"}, {Label: "P", Name: "b"}, {Label: "P", Name: "c"}, {Label: "P", Name: "d"}},
		{{Label: "P", Name: "a"}, {Label: "P", Name: "a"}},
		{{Label: "P", Name: "a"}, {Label: "Q", Name: "a"}, {Label: "P", Name: "a"}},
	}
	for _, s := range noNames {
		all = append(all, []impl.Rule{{Label: s, Name: "a"}}, []impl.Rule{{Label: "P", Name: s}}, []impl.Rule{{Label: "P", Name: "a"}, {Label: s, Name: "b"}})
	}
	return all
}

// someRules is rules that are ok.
func someRules() [][]impl.Rule {
	return [][]impl.Rule{
		nil, {},
		{{Label: "P", Name: "n"}},
		{{Label: "A", Name: "a"}, {Label: "longname", Name: "zZ9"}},
		{{Label: "Q", Name: "name"}, {Label: "Q", Name: "b1"}, {Label: "P", Name: "name"}},
		{{Label: "none", Name: "n"}, {Label: "A", Name: "none"}, {Label: "A", Name: "n"}},
	}
}

func nodesOf(values ...impl.Value) impl.Graph {
	g := impl.Graph{NextNode: len(values)}
	for i, v := range values {
		node := impl.Node{Id: i, Labels: []string{"P"}}
		if v.Kind != impl.IsNull {
			node.Props = []impl.Prop{prop("n", v)}
		}
		g.Nodes = append(g.Nodes, node)
	}
	return g
}

func valueUnder(n impl.Node, label string, name string) (impl.Value, bool) {
	for _, p := range n.Props {
		if p.Name == name && slices.Contains(n.Labels, label) {
			return p.Value, true
		}
	}
	return impl.Value{}, false
}

// wantBroken asks all pairs of nodes, rule by rule.
func wantBroken(g impl.Graph, rules []impl.Rule) [3]int {
	for place, r := range rules {
		for i, a := range g.Nodes {
			for _, b := range g.Nodes[i+1:] {
				v, one := valueUnder(a, r.Label, r.Name)
				w, two := valueUnder(b, r.Label, r.Name)
				if one && two && same(v, w) {
					return [3]int{place, a.Id, b.Id}
				}
			}
		}
	}
	return [3]int{-1, -1, -1}
}

func broken(g impl.Graph, rules []impl.Rule) [3]int {
	place, a, b := impl.RulesBroken(g, rules)
	return [3]int{place, a, b}
}

func TestRulesOk(t *testing.T) {
	for _, rules := range someRules() {
		if !impl.RulesOk(rules) {
			t.Errorf("ok: %v", rules)
		}
	}
	for i, rules := range wrongRules() {
		if impl.RulesOk(rules) {
			t.Errorf("not ok: %d", i)
		}
	}
}

// Promise 15: a rule is broken by two nodes of its label that have the same.
func TestPromise15RuleIsBrokenByTwoNodes(t *testing.T) {
	held, none := 0, 0
	for _, g := range someGraphs(t) {
		for _, rules := range someRules() {
			got, want := broken(g, rules), wantBroken(g, rules)
			if got != want || impl.RulesHold(g, rules) != (want[0] == -1) {
				t.Errorf("%v in %s: %v, not %v", rules, show(g), got, want)
			}
			if want[0] == -1 {
				held++
			} else {
				none++
			}
		}
	}
	if held < 20 || none < 20 {
		t.Errorf("%d hold, %d do not: there is too little to tell by", held, none)
	}
}

func TestPromise15TheFirstTwo(t *testing.T) {
	rule := []impl.Rule{{Label: "P", Name: "n"}}
	for i, c := range []struct {
		g    impl.Graph
		want [3]int
	}{
		{nodesOf(num(1), num(2), num(3)), [3]int{-1, -1, -1}},
		{nodesOf(num(1), num(2), num(2), num(1)), [3]int{0, 0, 3}},
		{nodesOf(num(3), num(2), num(1), num(1), num(2), num(2)), [3]int{0, 1, 4}},
		{nodesOf(null(), null(), null()), [3]int{-1, -1, -1}},
		{nodesOf(null(), num(1), null(), num(1)), [3]int{0, 1, 3}},
		{nodesOf(num(1), text("1"), list(num(1)), list(text("1")), yes()), [3]int{-1, -1, -1}},
		{nodesOf(text("a, b"), list(text("a"), text("b")), list(text("a, b")), text("null")), [3]int{-1, -1, -1}},
		{nodesOf(list(), list(list()), list()), [3]int{0, 0, 2}},
	} {
		if got := broken(c.g, rule); got != c.want || impl.RulesHold(c.g, rule) != (c.want[0] == -1) {
			t.Errorf("%d: %v", i, got)
		}
	}
	other := nodesOf(num(1), num(1))
	other.Nodes[1].Labels = []string{"Q"}
	if broken(other, rule)[0] != -1 {
		t.Error("two labels")
	}
	two := []impl.Rule{{Label: "Q", Name: "n"}, {Label: "P", Name: "m"}, {Label: "P", Name: "n"}}
	if got := broken(nodesOf(num(1), num(1)), two); got != [3]int{2, 0, 1} {
		t.Errorf("the third rule: %v", got)
	}
}

func TestPromise15WhatIsNotOk(t *testing.T) {
	none := [3]int{-1, -1, -1}
	for name, g := range wrongGraphs() {
		for _, rules := range someRules() {
			if impl.RulesHold(g, rules) || broken(g, rules) != none {
				t.Errorf("%s", name)
			}
		}
	}
	g := nodesOf(num(1), num(1))
	g.Nodes[0].Props[0].Name, g.Nodes[1].Props[0].Name = "a", "a"
	for i, rules := range wrongRules() {
		if impl.RulesHold(g, rules) || broken(g, rules) != none || impl.RulesHold(impl.Graph{}, rules) {
			t.Errorf("rules %d", i)
		}
	}
}

// Promise 16: what holds rules does so with a node less.
func TestPromise16RulesHoldWithANodeLess(t *testing.T) {
	asked := 0
	for _, g := range someGraphs(t) {
		for _, rules := range someRules() {
			for _, id := range nodeIds(g) {
				if less, ok := impl.NodeDrop(g, id, true); ok && impl.RulesHold(g, rules) {
					asked++
					if !impl.RulesHold(less, rules) {
						t.Errorf("%v without %d of %s", rules, id, show(g))
					}
				}
			}
		}
	}
	if asked < 100 {
		t.Errorf("asked %d times", asked)
	}
}

func TestPromise16WithoutOneOfTheTwoTheRuleHolds(t *testing.T) {
	rule := []impl.Rule{{Label: "P", Name: "n"}}
	g := nodesOf(num(1), num(2), num(1))
	_, a, b := impl.RulesBroken(g, rule)
	for _, id := range []int{a, b} {
		if less, ok := impl.NodeDrop(g, id, false); !ok || !impl.RulesHold(less, rule) {
			t.Errorf("without %d", id)
		}
	}
}

// Promise 17: what is found has the label, and the value.
func TestPromise17FindBy(t *testing.T) {
	values := append(ascendingValues(), num(2), text("1"), text("x"), list(num(1), text("x")))
	found := 0
	for _, g := range someGraphs(t) {
		for _, label := range []string{"A", "P", "Q", "longname", "none"} {
			for _, name := range []string{"a", "b1", "n", "zZ9", "none"} {
				for _, v := range values {
					var want []int
					for _, n := range g.Nodes {
						if w, ok := valueUnder(n, label, name); ok && same(v, w) {
							want = append(want, n.Id)
						}
					}
					found += len(want)
					if got := impl.FindBy(g, label, name, v); !slices.Equal(got, want) {
						t.Fatalf("%s %s %s in %s: %v", label, name, impl.ValuePut(v), show(g), got)
					}
				}
			}
		}
	}
	if found < 100 {
		t.Errorf("found %d", found)
	}
}

func TestPromise17WhatIsNotFound(t *testing.T) {
	g := nodesOf(num(1), null(), num(1), text("null"))
	if got := impl.FindBy(g, "P", "n", num(1)); !slices.Equal(got, []int{0, 2}) {
		t.Errorf("found: %v", got)
	}
	for i, got := range [][]int{
		impl.FindBy(g, "", "n", num(1)), impl.FindBy(g, "P", "", num(1)), impl.FindBy(g, "P", "n", null()), impl.FindBy(g, "P", "none", null()), impl.FindBy(g, "p", "n", num(1)),
		impl.FindBy(g, "P", "n", nodeRef(0)), impl.FindBy(g, "P", "n", list(null())), impl.FindBy(g, "P", "n", impl.Value{Kind: impl.IsNum, Num: 1, Text: "x"}),
	} {
		if len(got) != 0 {
			t.Errorf("%d: %v", i, got)
		}
	}
	for i, v := range wrongValues() {
		if len(impl.FindBy(g, "P", "n", v)) != 0 {
			t.Errorf("wrong value %d", i)
		}
	}
	for name, w := range wrongGraphs() {
		if len(impl.FindBy(w, "P", "n", num(3))) != 0 {
			t.Errorf("%s", name)
		}
	}
}
