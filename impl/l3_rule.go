package impl

import (
	"errors"
	"strconv"
)

// RuleMax is how many rules there are at most.
const RuleMax = 3

// Rule says that no two nodes of a label have the same under a name.
type Rule struct {
	Label string
	Name  string
}

// RulesOk says whether rules are ok.
func RulesOk(list []Rule) bool {
	if len(list) > RuleMax {
		return false
	}
	seen := map[Rule]int{}
	for _, r := range list {
		if !NameOk(r.Label) || !NameOk(r.Name) || seen[r] > 0 {
			return false
		}
		seen[r]++
	}
	return true
}

// RulesHold says whether a graph holds rules.
func RulesHold(g Graph, list []Rule) bool {
	n, ok := netOf(g)
	return ok && RulesOk(list) && n.checkRules(list) == nil
}

// RulesBroken is the first rule that a graph does not hold, and two nodes that break it; -1 if there is none.
func RulesBroken(g Graph, list []Rule) (int, int, int) {
	n, ok := netOf(g)
	if !ok || !RulesOk(list) {
		return -1, -1, -1
	}
	var broken brokenRule
	if errors.As(n.checkRules(list), &broken) {
		return broken.place, broken.first, broken.second
	}
	return -1, -1, -1
}

// FindBy is numbers of nodes of a label that have a value under a name.
func FindBy(g Graph, label string, name string, v Value) []int {
	n, ok := netOf(g)
	if !ok || !ValueOk(v) || label == "" {
		return nil
	}
	return n.idsByText(label, name)[ValuePut(v)]
}

// brokenRule is what is wrong with a graph that does not hold a rule: its place, and two nodes that have the same.
type brokenRule struct {
	place  int
	first  int
	second int
}

func (b brokenRule) Error() string {
	return "rule " + strconv.Itoa(b.place) + " is broken by nodes " + strconv.Itoa(b.first) + " and " + strconv.Itoa(b.second)
}

func (n *net) checkRules(list []Rule) error {
	for place, r := range list {
		if err := n.checkRule(place, r); err != nil {
			return err
		}
	}
	return nil
}

// checkRule asks the nodes in their order, as the first that is not alone need not be the one whose like comes first.
func (n *net) checkRule(place int, r Rule) error {
	byText := n.idsByText(r.Label, r.Name)
	for _, id := range n.nodesWith(r.Label) {
		v := propOf(n.nodes.rows[id].Props, r.Name)
		if ids := byText[ValuePut(v)]; len(ids) > 1 {
			return brokenRule{place, ids[0], ids[1]}
		}
	}
	return nil
}

// idsByText is numbers of nodes with a label, ascending, by the text of what they have under a name: no two values have one text, and a text can be a key. Who has nothing there is left out.
func (n *net) idsByText(label string, name string) map[string][]int {
	byText := map[string][]int{}
	for _, id := range n.nodesWith(label) {
		v := propOf(n.nodes.rows[id].Props, name)
		if v.Kind != IsNull {
			key := ValuePut(v)
			byText[key] = append(byText[key], id)
		}
	}
	return byText
}
