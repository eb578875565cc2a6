package tests

import (
	"fmt"
	"slices"
	"strings"
	"testing"

	"loop.example/ashlar/impl"
)

func msgOf(kind int) impl.Msg           { return impl.Msg{Kind: kind} }
func msgHello(name string) impl.Msg     { return impl.Msg{Kind: impl.MsgHello, Text: name} }
func msgPull(rows int) impl.Msg         { return impl.Msg{Kind: impl.MsgPull, Num: rows} }
func talkOf(mode int, tx int) impl.Talk { return impl.Talk{Mode: mode, Tx: tx} }

func msgRun(s string, given ...impl.Cell) impl.Msg {
	return impl.Msg{Kind: impl.MsgRun, Text: s, Given: given}
}

// flowOf is a talk with an answer of three rows, of which some are told.
func flowOf(tx int, at int) impl.Talk {
	return impl.Talk{Mode: impl.TalkFlow, Tx: tx, Table: tableOf("x", numbered(1, 2, 3)...), At: at}
}

// bareKinds is kinds of what is said by its kind alone.
func bareKinds() []int {
	return []int{impl.MsgDrop, impl.MsgBegin, impl.MsgKeep, impl.MsgBack, impl.MsgReset, impl.MsgBye}
}

// everyByte is a text of all bytes that there are.
func everyByte() string {
	var all []byte
	for c := range 256 {
		all = append(all, byte(c))
	}
	return string(all)
}

// fiveCells is as much as may be given, with values that meet their limits.
func fiveCells() []impl.Cell {
	long := text("abcdefghijklmnop")
	six := list(long, long, long, long, long, long)
	return []impl.Cell{cell("a", list(six, six, six, six, six, six)), cell("abcdefgh", num(-impl.NumMax)), cell("c", null()), cell("d", nodeRef(impl.NumMax)), cell("b", text("=a=', \"#"[:3]))}
}

// okMsgs is what may be said, each limit met by one.
func okMsgs() []impl.Msg {
	all := []impl.Msg{
		msgHello("a"), msgHello("abcdefgh"), msgHello("Zz9"),
		msgRun(""), msgRun("RETURN 1 AS x"), msgRun("no question"), msgRun(everyByte()), msgRun("\n"), msgRun(" 1 2 "), msgRun(strings.Repeat("\xff", impl.QueryMax)),
		msgRun("", fiveCells()...), msgRun("a\nb=1", fiveCells()[:1]...), msgRun(strings.Repeat("\n", impl.QueryMax), fiveCells()...),
		msgPull(1), msgPull(9), msgPull(10), msgPull(impl.RowMax),
	}
	for _, kind := range bareKinds() {
		all = append(all, msgOf(kind))
	}
	for _, v := range ascendingValues() {
		all = append(all, msgRun("x", cell("b", v), cell("a", v)))
	}
	return all
}

// wrongMsgs is what is not ok, for each reason that there is.
func wrongMsgs() []impl.Msg {
	x := []impl.Cell{cell("x", num(1))}
	all := []impl.Msg{
		{}, {Kind: -1}, {Kind: 10}, {Text: "a"}, {Kind: impl.MsgHello, Text: "a", Num: 1}, {Kind: impl.MsgHello, Text: "a", Given: x},
		{Kind: impl.MsgRun, Num: 1}, msgRun(strings.Repeat(" ", impl.QueryMax+1)), msgRun("", append(fiveCells(), cell("f", num(1)))...),
		msgPull(0), msgPull(-1), msgPull(impl.RowMax + 1), msgPull(-1 << 63), {Kind: impl.MsgPull, Num: 1, Text: "a"}, {Kind: impl.MsgPull, Num: 1, Given: x},
	}
	for _, s := range noNames {
		all = append(all, msgHello(s))
	}
	for _, cells := range wrongCells() {
		all = append(all, msgRun("RETURN 1 AS x", cells...))
	}
	for _, kind := range bareKinds() {
		all = append(all, impl.Msg{Kind: kind, Text: "a"}, impl.Msg{Kind: kind, Num: 1}, impl.Msg{Kind: kind, Given: x})
	}
	return all
}

func TestMsgOk(t *testing.T) {
	for _, m := range okMsgs() {
		if !impl.MsgOk(m) {
			t.Errorf("%.200q is not ok", fmt.Sprint(m))
		}
	}
	for i, m := range wrongMsgs() {
		if impl.MsgOk(m) {
			t.Errorf("%d, of kind %d, is ok", i, m.Kind)
		}
	}
	if !impl.MsgOk(impl.Msg{Kind: impl.MsgBye, Given: []impl.Cell{}}) {
		t.Error("an empty list is another one than none")
	}
}

// okTalks is talks that are ok with busyStore.
func okTalks() []impl.Talk {
	all := []impl.Talk{talkOf(impl.TalkFresh, -1), talkOf(impl.TalkOver, -1)}
	for _, tx := range []int{-1, 0, 2, 3} {
		all = append(all, talkOf(impl.TalkReady, tx), talkOf(impl.TalkFailed, tx))
		for at := range 4 {
			all = append(all, flowOf(tx, at))
		}
	}
	full := impl.Talk{Mode: impl.TalkFlow, Tx: -1, Table: fullTable(), At: impl.RowMax}
	return append(all, full, impl.Talk{Mode: impl.TalkFlow, Tx: 2, Table: tableOf("a b")}, impl.Talk{Mode: impl.TalkReady, Tx: -1, Table: impl.Table{Names: []string{}, Rows: [][]impl.Value{}}})
}

// wrongTalks is talks that are not ok with busyStore.
func wrongTalks() []impl.Talk {
	all := []impl.Talk{{}, talkOf(-1, -1), talkOf(5, -1), talkOf(impl.TalkFresh, 0), talkOf(impl.TalkOver, 0), talkOf(impl.TalkFresh, 2), talkOf(impl.TalkOver, 3), flowOf(-1, -1), flowOf(-1, 4), {Mode: impl.TalkFlow, Tx: -1}}
	for _, tx := range []int{-2, 1, 4, -1 << 63, 1<<63 - 1} {
		all = append(all, talkOf(impl.TalkReady, tx), talkOf(impl.TalkFailed, tx), flowOf(tx, 0))
	}
	for _, mode := range []int{impl.TalkFresh, impl.TalkReady, impl.TalkFailed, impl.TalkOver} {
		all = append(all, impl.Talk{Mode: mode, Tx: -1, At: 1}, impl.Talk{Mode: mode, Tx: -1, At: -1}, impl.Talk{Mode: mode, Tx: -1, Table: tableOf("x")}, impl.Talk{Mode: mode, Tx: -1, Table: tableOf("", nil)}, impl.Talk{Mode: mode, Tx: -1, Table: tableOf("x", numbered(1)...)})
	}
	for _, table := range append(wrongTables(), impl.Table{}, tableOf("", nil)) {
		all = append(all, impl.Talk{Mode: impl.TalkFlow, Tx: -1, Table: table})
	}
	return all
}

func TestTalkOk(t *testing.T) {
	s := busyStore(t)
	for _, talk := range okTalks() {
		if !impl.TalkOk(s, talk) {
			t.Errorf("%+v is not ok", talk)
		}
	}
	for i, talk := range wrongTalks() {
		if impl.TalkOk(s, talk) {
			t.Errorf("%d: %+v is ok", i, talk)
		}
	}
	for what, s := range wrongStores(t) {
		if impl.TalkOk(s, talkOf(impl.TalkFresh, -1)) || impl.TalkOk(s, talkOf(impl.TalkReady, -1)) || impl.TalkOk(s, talkOf(impl.TalkOver, -1)) {
			t.Errorf("a store that is not ok: %s", what)
		}
	}
	if !impl.TalkOk(impl.Store{}, talkOf(impl.TalkFresh, -1)) || impl.TalkOk(impl.Store{}, talkOf(impl.TalkReady, 0)) {
		t.Error("with a store of nothing")
	}
}

// What is not ok has one fixed answer, whatever is said.
func TestTalkDoOfWhatIsNotOk(t *testing.T) {
	asked := []impl.Msg{msgHello("a"), msgOf(impl.MsgBye), msgOf(impl.MsgReset), msgPull(1), msgRun("CREATE (a)"), {}}
	wantNothing := func(s impl.Store, talk impl.Talk) {
		t.Helper()
		for _, m := range asked {
			if got, gotTalk, told := impl.TalkDo(s, talk, m); !same(got, impl.Store{}) || !same(gotTalk, impl.Talk{}) || len(told) != 0 {
				t.Errorf("%+v, %+v: %+v %+v", talk, m, gotTalk, told)
			}
		}
	}
	for _, talk := range wrongTalks() {
		wantNothing(busyStore(t), talk)
	}
	for _, s := range wrongStores(t) {
		wantNothing(s, talkOf(impl.TalkReady, -1))
		wantNothing(s, talkOf(impl.TalkOver, -1))
	}
}

func putReplies(told []impl.Reply) string {
	var all []string
	for _, r := range told {
		all = append(all, impl.ReplyPut(r))
	}
	return strings.Join(all, ";")
}

// slowTalkDo does what is said a second way, by the words of the document alone, to a store and a talk that are ok.
func slowTalkDo(s impl.Store, talk impl.Talk, m impl.Msg) (impl.Store, impl.Talk, []impl.Reply) {
	ok, tx := impl.MsgOk(m), talk.Tx
	back := func() impl.Store {
		if tx < 0 {
			return s
		}
		without, _ := impl.TxBack(s, tx)
		return without
	}
	fine, fail := []impl.Reply{{Kind: impl.ReplyOk}}, func(code int) []impl.Reply { return []impl.Reply{{Kind: impl.ReplyFail, Code: code}} }
	switch {
	case talk.Mode == impl.TalkOver:
		return s, talk, nil
	case ok && m.Kind == impl.MsgBye:
		return back(), talkOf(impl.TalkOver, -1), nil
	case talk.Mode == impl.TalkFresh && ok && m.Kind == impl.MsgHello:
		return s, talkOf(impl.TalkReady, -1), fine
	case talk.Mode == impl.TalkFresh:
		return s, talkOf(impl.TalkOver, -1), fail(impl.ErrForm)
	case ok && m.Kind == impl.MsgReset:
		return back(), talkOf(impl.TalkReady, -1), fine
	case talk.Mode == impl.TalkFailed:
		return s, talk, []impl.Reply{{Kind: impl.ReplyPast}}
	case !ok:
		return s, talkOf(impl.TalkFailed, tx), fail(impl.ErrForm)
	case talk.Mode == impl.TalkFlow && m.Kind == impl.MsgPull:
		return slowPull(s, talk, m.Num)
	case talk.Mode == impl.TalkFlow && m.Kind == impl.MsgDrop:
		return s, talkOf(impl.TalkReady, tx), fine
	case talk.Mode == impl.TalkReady && m.Kind == impl.MsgRun:
		return slowTalkRun(s, tx, impl.Ask{Text: m.Text, Given: m.Given})
	case talk.Mode == impl.TalkReady && m.Kind == impl.MsgBegin && tx == -1:
		if s, id, ok := impl.TxBegin(s); ok {
			return s, talkOf(impl.TalkReady, id), fine
		}
		return s, talkOf(impl.TalkFailed, -1), fail(impl.ErrFull)
	case talk.Mode == impl.TalkReady && m.Kind == impl.MsgKeep && tx != -1:
		s, code := impl.TxKeep(s, tx)
		if code != 0 {
			return s, talkOf(impl.TalkFailed, -1), fail(code)
		}
		return s, talkOf(impl.TalkReady, -1), fine
	case talk.Mode == impl.TalkReady && m.Kind == impl.MsgBack && tx != -1:
		return back(), talkOf(impl.TalkReady, -1), fine
	}
	return s, talkOf(impl.TalkFailed, tx), fail(impl.ErrForm)
}

func slowPull(s impl.Store, talk impl.Talk, most int) (impl.Store, impl.Talk, []impl.Reply) {
	var told []impl.Reply
	for range most {
		if talk.At < len(talk.Table.Rows) {
			told = append(told, impl.Reply{Kind: impl.ReplyRow, Row: talk.Table.Rows[talk.At]})
			talk.At++
		}
	}
	if talk.At < len(talk.Table.Rows) {
		return s, talk, append(told, impl.Reply{Kind: impl.ReplyOk, More: true})
	}
	return s, talkOf(impl.TalkReady, talk.Tx), append(told, impl.Reply{Kind: impl.ReplyOk})
}

func slowTalkRun(s impl.Store, tx int, a impl.Ask) (impl.Store, impl.Talk, []impl.Reply) {
	var table impl.Table
	var code int
	if tx == -1 {
		s, table, code = impl.StoreAsk(s, a)
	} else {
		s, table, code = impl.TxAsk(s, tx, a)
	}
	switch {
	case code != 0:
		return s, talkOf(impl.TalkFailed, tx), []impl.Reply{{Kind: impl.ReplyFail, Code: code}}
	case len(table.Names) == 0:
		return s, talkOf(impl.TalkReady, tx), []impl.Reply{{Kind: impl.ReplyOk}}
	}
	return s, impl.Talk{Mode: impl.TalkFlow, Tx: tx, Table: table}, []impl.Reply{{Kind: impl.ReplyOk, Names: table.Names, More: true}}
}

// checkTalkDo asks that a talk is done as it is a second way, and that promise 58 holds of it.
func checkTalkDo(t *testing.T, s impl.Store, talk impl.Talk, m impl.Msg) (impl.Store, impl.Talk, []impl.Reply) {
	t.Helper()
	got, gotTalk, told := impl.TalkDo(s, talk, m)
	want, wantTalk, wantTold := slowTalkDo(s, talk, m)
	if !same(got, want) || !same(gotTalk, wantTalk) || !same(told, wantTold) {
		t.Fatalf("%+v, %.200q: %+v %q, not %+v %q\n%+v\n%+v", talk, fmt.Sprint(m), gotTalk, putReplies(told), wantTalk, putReplies(wantTold), got, want)
	}
	if !impl.TalkOk(got, gotTalk) {
		t.Fatalf("%+v, %.200q: %+v is not ok", talk, fmt.Sprint(m), gotTalk)
	}
	for i, r := range told {
		if (r.Kind == impl.ReplyRow) == (i == len(told)-1) || !impl.ReplyFine(r) {
			t.Fatalf("%+v, %.200q: %q", talk, fmt.Sprint(m), putReplies(told))
		}
	}
	return got, gotTalk, told
}

// What each mode does with each kind: the mode then, what is under way then, and what is told.
func TestTalkDoOfEachMode(t *testing.T) {
	said := map[string]impl.Msg{"hello": msgHello("a"), "ask": msgRun("RETURN 1 AS x, 'y' AS y"), "none": msgRun("MATCH (a:none) RETURN a AS a"), "write": msgRun("CREATE (a)"), "both": msgRun("CREATE (a) RETURN 1 AS b"), "wrong": msgRun("RETURN $no AS x"), "text": msgRun("no question"), "pull 1": msgPull(1), "pull 2": msgPull(2), "pull 60": msgPull(60), "drop": msgOf(impl.MsgDrop), "begin": msgOf(impl.MsgBegin), "keep": msgOf(impl.MsgKeep), "back": msgOf(impl.MsgBack), "reset": msgOf(impl.MsgReset), "bye": msgOf(impl.MsgBye), "no bye": {Kind: impl.MsgBye, Num: 1}, "no reset": {Kind: impl.MsgReset, Text: "a"}, "no hello": msgHello("9"), "no pull": msgPull(61), "nothing": {}}
	fail := func(tx int) string { return fmt.Sprintf("3 %d fail 8", tx) }
	for _, c := range []struct {
		talk  impl.Talk
		other string
		want  map[string]string
	}{
		{talkOf(impl.TalkFresh, -1), "4 -1 fail 8", map[string]string{"hello": "1 -1 ok", "bye": "4 -1 "}},
		{talkOf(impl.TalkOver, -1), "4 -1 ", nil},
		{talkOf(impl.TalkFailed, -1), "3 -1 past", map[string]string{"reset": "1 -1 ok", "bye": "4 -1 "}},
		{talkOf(impl.TalkFailed, 2), "3 2 past", map[string]string{"reset": "1 -1 ok", "bye": "4 -1 "}},
		{talkOf(impl.TalkReady, -1), fail(-1), map[string]string{"ask": "2 -1 more x y", "none": "2 -1 more a", "write": "1 -1 ok", "both": "2 -1 more b", "wrong": "3 -1 fail 3", "begin": "1 4 ok", "reset": "1 -1 ok", "bye": "4 -1 "}},
		{talkOf(impl.TalkReady, 0), fail(0), map[string]string{"ask": "2 0 more x y", "none": "2 0 more a", "write": "1 0 ok", "both": "2 0 more b", "wrong": "3 0 fail 3", "keep": "3 -1 fail 9", "back": "1 -1 ok", "reset": "1 -1 ok", "bye": "4 -1 "}},
		{talkOf(impl.TalkReady, 2), fail(2), map[string]string{"ask": "2 2 more x y", "none": "2 2 more a", "write": "1 2 ok", "both": "2 2 more b", "wrong": "3 2 fail 3", "keep": "1 -1 ok", "back": "1 -1 ok", "reset": "1 -1 ok", "bye": "4 -1 "}},
		{flowOf(-1, 0), fail(-1), map[string]string{"pull 1": "2 -1 row [1];more", "pull 2": "2 -1 row [1];row [2];more", "pull 60": "1 -1 row [1];row [2];row [3];ok", "drop": "1 -1 ok", "reset": "1 -1 ok", "bye": "4 -1 "}},
		{flowOf(3, 1), fail(3), map[string]string{"pull 1": "2 3 row [2];more", "pull 2": "1 3 row [2];row [3];ok", "pull 60": "1 3 row [2];row [3];ok", "drop": "1 3 ok", "reset": "1 -1 ok", "bye": "4 -1 "}},
		{flowOf(-1, 3), fail(-1), map[string]string{"pull 1": "1 -1 ok", "pull 2": "1 -1 ok", "pull 60": "1 -1 ok", "drop": "1 -1 ok", "reset": "1 -1 ok", "bye": "4 -1 "}},
	} {
		for what, m := range said {
			want, listed := c.want[what]
			if !listed {
				want = c.other
			}
			_, talk, told := checkTalkDo(t, busyStore(t), c.talk, m)
			if got := fmt.Sprint(talk.Mode, " ", talk.Tx, " ", putReplies(told)); got != want {
				t.Errorf("%+v, %s: %q, not %q", c.talk, what, got, want)
			}
		}
	}
}

// What is not ok says nothing that is done, whatever its kind is.
func TestTalkDoOfWrongMsgs(t *testing.T) {
	s := busyStore(t)
	for _, m := range wrongMsgs() {
		for _, c := range []struct {
			talk impl.Talk
			want string
		}{{talkOf(impl.TalkFresh, -1), "4 -1 fail 8"}, {talkOf(impl.TalkReady, 2), "3 2 fail 8"}, {flowOf(2, 1), "3 2 fail 8"}, {talkOf(impl.TalkFailed, 2), "3 2 past"}, {talkOf(impl.TalkOver, -1), "4 -1 "}} {
			got, talk, told := impl.TalkDo(s, c.talk, m)
			if text := fmt.Sprint(talk.Mode, " ", talk.Tx, " ", putReplies(told)); text != c.want || !same(got, s) || len(talk.Table.Names) != 0 || talk.At != 0 {
				t.Errorf("%+v: %q, not %q", c.talk, text, c.want)
			}
		}
	}
}

// someMsg is something that is said, mostly what its mode does something with.
func someMsg(d *dice, talk impl.Talk) impl.Msg {
	kinds := map[int][]int{impl.TalkFresh: {impl.MsgHello}, impl.TalkReady: {impl.MsgRun, impl.MsgRun, impl.MsgRun, impl.MsgBegin}, impl.TalkFlow: {impl.MsgPull, impl.MsgPull, impl.MsgPull, impl.MsgPull, impl.MsgDrop, impl.MsgReset}, impl.TalkFailed: {impl.MsgReset, impl.MsgReset, impl.MsgRun}}[talk.Mode]
	if talk.Tx != -1 && talk.Mode == impl.TalkReady {
		kinds = []int{impl.MsgRun, impl.MsgRun, impl.MsgRun, impl.MsgKeep, impl.MsgBack}
	}
	if talk.Tx != -1 && talk.Mode == impl.TalkFlow {
		kinds = append(kinds, impl.MsgBye)
	}
	kind := 1 + d.roll(9)
	if len(kinds) > 0 && d.roll(10) > 0 {
		kind = kinds[d.roll(len(kinds))]
	}
	m := msgOf(kind)
	switch kind {
	case impl.MsgHello:
		m = msgHello("home")
	case impl.MsgRun:
		a := someAsk(d)
		m = msgRun(a.Text, a.Given...)
	case impl.MsgPull:
		m = msgPull(1 + d.roll(2)*d.roll(4))
	}
	if d.roll(60) == 0 {
		m.Num = 77
	}
	return m
}

// Promise 58: whatever is said, a talk is ok, and its store; and it is done as it is a second way.
func TestPromise58WhateverIsSaid(t *testing.T) {
	d, met := dice(21), map[string]int{}
	for range 40 {
		talks := []impl.Talk{talkOf(impl.TalkFresh, -1), talkOf(impl.TalkFresh, -1), talkOf(impl.TalkFresh, -1)}
		s := newStore(t, walkRules())
		for range 90 {
			one := &talks[d.roll(len(talks))]
			if one.Mode == impl.TalkOver && d.roll(3) > 0 {
				*one = talkOf(impl.TalkFresh, -1)
			}
			m, before := someMsg(&d, *one), *one
			var told []impl.Reply
			s, *one, told = checkTalkDo(t, s, before, m)
			met[fmt.Sprint(before.Mode, before.Tx != -1, " to ", one.Mode, one.Tx != -1)]++
			if len(told) > 0 {
				met[strings.Fields(impl.ReplyPut(told[len(told)-1]))[0]]++
			}
			for i := range talks {
				if !impl.TalkOk(s, talks[i]) {
					t.Fatalf("behind %+v the talk of somebody else is not ok: %+v", m, talks[i])
				}
			}
		}
	}
	for _, what := range []string{"ok", "more", "fail", "past", "0 false to 1 false", "0 false to 4 false", "1 false to 1 false", "1 false to 2 false", "1 false to 3 false", "1 false to 1 true", "1 true to 1 true", "1 true to 1 false", "1 true to 2 true", "1 true to 3 true", "1 true to 3 false", "1 true to 4 false", "2 false to 2 false", "2 true to 2 true", "2 true to 1 true", "2 true to 3 true", "2 true to 1 false", "2 true to 4 false", "3 true to 3 true", "3 true to 1 false", "3 true to 4 false", "3 false to 1 false"} {
		if met[what] == 0 {
			t.Errorf("%s came never: %v", what, met)
		}
	}
}

// Promise 58 holds of each talk, and of all that may be said, ok or not.
func TestPromise58OfEachTalk(t *testing.T) {
	s := busyStore(t)
	for _, talk := range okTalks() {
		for i, m := range slices.Concat(okMsgs(), wrongMsgs()) {
			if i%3 == talk.At%3 {
				checkTalkDo(t, s, talk, m)
			}
		}
	}
}

// Promise 59: behind what went wrong all is passed over, but for what begins it anew, or ends it.
func TestPromise59AllIsPassedOver(t *testing.T) {
	for _, tx := range []int{-1, 0, 2, 3} {
		s, talk := busyStore(t), talkOf(impl.TalkFailed, tx)
		for _, m := range slices.Concat(okMsgs(), wrongMsgs()) {
			if impl.MsgOk(m) && (m.Kind == impl.MsgReset || m.Kind == impl.MsgBye) {
				continue
			}
			if got, gotTalk, told := impl.TalkDo(s, talk, m); !same(got, s) || !same(gotTalk, talk) || putReplies(told) != "past" {
				t.Errorf("%+v: %+v %q", m, gotTalk, putReplies(told))
			}
		}
		got, gotTalk, told := impl.TalkDo(s, talk, msgOf(impl.MsgReset))
		if !same(gotTalk, talkOf(impl.TalkReady, -1)) || putReplies(told) != "ok" || !same(got.Graph, s.Graph) {
			t.Errorf("it is not begun anew: %+v %q", gotTalk, putReplies(told))
		}
	}
}

// Promise 60: rows that are told one by one are those of the answer, however many are asked for.
func TestPromise60RowsOneByOne(t *testing.T) {
	s := mustAsk(t, newStore(t, nil), askOf("UNWIND [1, 2, 3, 4, 5] AS x CREATE (a:P {n: x, l: [7, ['y']]})"))
	d := dice(8)
	questions := []string{"MATCH (a) RETURN a.n AS n, a.l AS l, a AS a", "MATCH (a:none) RETURN a AS a", "RETURN 1 AS x", "MATCH (a), (b) RETURN a AS a, b AS b", "UNWIND [1, 2, 3, 4, 5, 6] AS x UNWIND [1, 2, 3, 4, 5, 6] AS y WITH x AS x, y AS y WHERE (x < 3) RETURN x AS x, y AS y", "UNWIND [1, 2, 3, 4, 5, 6] AS x UNWIND [1, 2, 3, 4, 5] AS y UNWIND [1, 2] AS z RETURN ([[[]], 4] + [[5]]) AS l, (x + z) AS x, null AS n, 'text' AS t, y AS y"}
	for _, q := range questions {
		_, want, code := impl.StoreAsk(s, askOf(q))
		if code != 0 {
			t.Fatal(q, code)
		}
		for _, most := range []int{1, 2, 5, 7, 12, 59, 60, 0} {
			got, talk, told := impl.TalkDo(s, talkOf(impl.TalkReady, -1), msgRun(q))
			if putReplies(told) != "more "+strings.Join(want.Names, " ") || !same(talk.Table, want) || talk.At != 0 {
				t.Fatalf("%s: %q", q, putReplies(told))
			}
			var rows [][]impl.Value
			for talk.Mode == impl.TalkFlow {
				size := most
				if most == 0 {
					size = 1 + d.roll(9)
				}
				got, talk, told = impl.TalkDo(got, talk, msgPull(size))
				for _, r := range told[:len(told)-1] {
					rows = append(rows, r.Row)
				}
				last, more := told[len(told)-1], len(rows) < len(want.Rows)
				if len(told)-1 > size || (more && len(told)-1 != size) || last.Kind != impl.ReplyOk || last.More != more || (talk.Mode == impl.TalkFlow) != more || (more && talk.At != len(rows)) {
					t.Fatalf("%s, %d: %q %+v", q, size, putReplies(told), talk)
				}
			}
			if !same(rows, want.Rows) || !same(talk, talkOf(impl.TalkReady, -1)) || !same(got, s) {
				t.Errorf("%s: %+v, not %+v", q, rows, want.Rows)
			}
		}
	}
}

// Who takes no more rows, or asks for something else, has what they wrote all the same.
func TestPromise60WhatIsDoneIsDoneAheadOfItsRows(t *testing.T) {
	s, talk, _ := impl.TalkDo(newStore(t, nil), talkOf(impl.TalkReady, -1), msgRun("CREATE (a), (b) RETURN a AS a"))
	for _, m := range []impl.Msg{msgOf(impl.MsgDrop), msgPull(1), msgOf(impl.MsgReset), msgOf(impl.MsgBye), msgRun("CREATE (a)"), {}} {
		if got, _, _ := impl.TalkDo(s, talk, m); len(got.Graph.Nodes) != 2 || !same(got, s) {
			t.Errorf("%+v: %+v", m, got)
		}
	}
}

// Promise 61: what is begun anew, or given up, leaves the store's graph, and nothing under way.
func TestPromise61BegunAnewOrGivenUp(t *testing.T) {
	for _, s := range append(someStores(t, 4), busyStore(t)) {
		talks := []impl.Talk{talkOf(impl.TalkReady, -1), talkOf(impl.TalkFailed, -1), flowOf(-1, 2)}
		for _, tx := range s.Txs {
			talks = append(talks, talkOf(impl.TalkReady, tx.Id), talkOf(impl.TalkFailed, tx.Id), flowOf(tx.Id, 1))
		}
		for _, talk := range talks {
			want := s
			if at := slices.IndexFunc(s.Txs, func(x impl.Tx) bool { return x.Id == talk.Tx }); at >= 0 {
				want = without(s, at)
			}
			got, gotTalk, told := impl.TalkDo(s, talk, msgOf(impl.MsgReset))
			if !same(got, want) || !same(gotTalk, talkOf(impl.TalkReady, -1)) || putReplies(told) != "ok" {
				t.Errorf("reset of %+v: %+v %q", talk, gotTalk, putReplies(told))
			}
			got, gotTalk, told = impl.TalkDo(s, talk, msgOf(impl.MsgBye))
			if !same(got, want) || !same(gotTalk, talkOf(impl.TalkOver, -1)) || len(told) != 0 {
				t.Errorf("bye of %+v: %+v %q", talk, gotTalk, putReplies(told))
			}
			if talk.Mode != impl.TalkReady || talk.Tx == -1 {
				continue
			}
			if got, gotTalk, told = impl.TalkDo(s, talk, msgOf(impl.MsgBack)); !same(got, want) || !same(gotTalk, talkOf(impl.TalkReady, -1)) || putReplies(told) != "ok" {
				t.Errorf("back of %+v: %+v %q", talk, gotTalk, putReplies(told))
			}
		}
	}
}

// Codes of a store are told, and what is under way stays so, but where it is told.
func TestTalkDoTellsCodes(t *testing.T) {
	s := busyStore(t)
	for q, code := range failing() {
		for _, tx := range []int{-1, 0, 2, 3} {
			got, talk, told := checkTalkDo(t, s, talkOf(impl.TalkReady, tx), msgRun(q))
			if !same(got, s) || !same(talk, talkOf(impl.TalkFailed, tx)) || putReplies(told) != fmt.Sprint("fail ", code) {
				t.Errorf("%s: %+v %q, not %d", q, talk, putReplies(told), code)
			}
		}
	}
	four, _ := mustBegin(t, s)
	full, keeps := fullStore(t, impl.DoneMax), fullTx(t, impl.DoneMax, 1)
	for _, c := range []struct {
		s    impl.Store
		tx   int
		m    impl.Msg
		want string
	}{
		{four, -1, msgOf(impl.MsgBegin), "3 -1 fail 4"},
		{impl.Store{Next: impl.NumMax}, -1, msgOf(impl.MsgBegin), "3 -1 fail 4"},
		{impl.Store{Next: impl.NumMax - 1}, -1, msgOf(impl.MsgBegin), "1 999999999 ok"},
		{full, -1, msgRun("MATCH (a) SET a.n = 1 RETURN 1 AS x"), "3 -1 fail 4"},
		{full, -1, msgRun("RETURN 1 AS x"), "2 -1 more x"},
		{keeps, 0, msgOf(impl.MsgKeep), "3 -1 fail 4"},
		{fullTx(t, impl.DoneMax-1, 1), 0, msgOf(impl.MsgKeep), "1 -1 ok"},
		{fullTx(t, 0, impl.DoneMax), 0, msgRun("CREATE (a)"), "3 0 fail 4"},
		{fullTx(t, 0, impl.DoneMax-1), 0, msgRun("CREATE (a)"), "1 0 ok"},
		{s, 0, msgOf(impl.MsgKeep), "3 -1 fail 9"},
	} {
		_, talk, told := checkTalkDo(t, c.s, talkOf(impl.TalkReady, c.tx), c.m)
		if got := fmt.Sprint(talk.Mode, " ", talk.Tx, " ", putReplies(told)); got != c.want {
			t.Errorf("%+v: %q, not %q", c.m, got, c.want)
		}
	}
}

// Promise 62: TalkPlay is TalkDo of each, one behind the other, to a store that is new.
func TestPromise62AllThatIsSaid(t *testing.T) {
	d, ends := dice(31), map[int]int{}
	for range 60 {
		want, wantTalk, all := newStore(t, walkRules()), talkOf(impl.TalkFresh, -1), []impl.Reply(nil)
		var msgs []impl.Msg
		for range 30 {
			s, talk, told := impl.TalkPlay(walkRules(), msgs)
			if !same(s, want) || !same(talk, wantTalk) || !same(told, all) || !impl.TalkOk(s, talk) {
				t.Fatalf("%+v: %+v %q, not %+v %q", msgs, talk, putReplies(told), wantTalk, putReplies(all))
			}
			m := someMsg(&d, wantTalk)
			if wantTalk.Mode != impl.TalkFresh && m.Kind == impl.MsgBye && d.roll(4) > 0 {
				m = msgOf(impl.MsgReset)
			}
			msgs = append(msgs, m)
			var told1 []impl.Reply
			want, wantTalk, told1 = impl.TalkDo(want, wantTalk, m)
			all = append(all, told1...)
		}
		if s, talk, told := impl.TalkPlay(walkRules(), msgs); !same(s, want) || !same(talk, wantTalk) || !same(told, all) {
			t.Fatalf("%+v: %+v %q, not %+v %q", msgs, talk, putReplies(told), wantTalk, putReplies(all))
		}
		ends[wantTalk.Mode]++
	}
	if ends[impl.TalkReady] == 0 || ends[impl.TalkFlow] == 0 || ends[impl.TalkFailed] == 0 || ends[impl.TalkOver] == 0 {
		t.Error(ends)
	}
}

// Limits of TalkPlay: 30 are done, one more is not; rules that are not ok have nothing.
func TestPromise62Limits(t *testing.T) {
	msgs := []impl.Msg{msgHello("a")}
	for len(msgs) < 30 {
		msgs = append(msgs, msgRun("CREATE (a)"))
	}
	if s, talk, told := impl.TalkPlay(nil, msgs); len(told) != 30 || len(s.Done) != impl.NodeMax || !same(talk, talkOf(impl.TalkFailed, -1)) {
		t.Errorf("%+v %d", talk, len(told))
	}
	if s, talk, told := impl.TalkPlay(nil, append(msgs, msgOf(impl.MsgReset))); !same(s, impl.Store{}) || !same(talk, impl.Talk{}) || len(told) != 0 {
		t.Errorf("one more: %+v %d", talk, len(told))
	}
	for _, rules := range wrongRules() {
		if s, talk, told := impl.TalkPlay(rules, msgs[:2]); !same(s, impl.Store{}) || !same(talk, impl.Talk{}) || len(told) != 0 {
			t.Errorf("%+v: %+v %d", rules, talk, len(told))
		}
	}
	for _, rules := range someRules() {
		if s, talk, told := impl.TalkPlay(rules, nil); !same(s, impl.Store{Rules: rules}) || !same(talk, talkOf(impl.TalkFresh, -1)) || len(told) != 0 {
			t.Errorf("%+v: %+v %d", rules, talk, len(told))
		}
	}
}

// Promise 81: what is made together is counted by others behind MsgKeep, and not ahead of it.
func TestPromise81SeenWhenItIsKept(t *testing.T) {
	counted := func(s impl.Store) int {
		_, table, _ := impl.StoreAsk(s, askOf("MATCH (a:P) RETURN count(*) AS c"))
		got, talk, _ := impl.TalkDo(s, talkOf(impl.TalkReady, -1), msgRun("MATCH (a:P) RETURN count(*) AS c"))
		_, _, told := impl.TalkDo(got, talk, msgPull(1))
		if len(told) != 2 || !same(told[0].Row, table.Rows[0]) {
			t.Fatalf("%q", putReplies(told))
		}
		return told[0].Row[0].Num
	}
	for _, made := range []int{1, 2, 5} {
		for _, end := range []int{impl.MsgKeep, impl.MsgBack, impl.MsgReset, impl.MsgBye} {
			s, talk := mustAsk(t, newStore(t, nil), askOf("CREATE (a:P), (b:Q)")), talkOf(impl.TalkReady, -1)
			s, talk, _ = impl.TalkDo(s, talk, msgOf(impl.MsgBegin))
			for i := range made {
				s, talk, _ = impl.TalkDo(s, talk, msgRun("CREATE (a:P)"))
				s1, talk1, _ := impl.TalkDo(s, talk, msgRun("MATCH (a:P) RETURN count(*) AS c"))
				if _, _, told := impl.TalkDo(s1, talk1, msgPull(1)); putReplies(told) != fmt.Sprintf("row [%d];ok", i+2) || counted(s) != 1 {
					t.Errorf("among others: %q; by others: %d", putReplies(told), counted(s))
				}
			}
			s, _, _ = impl.TalkDo(s, talk, msgOf(end))
			if want := map[bool]int{true: 1 + made, false: 1}[end == impl.MsgKeep]; counted(s) != want || len(s.Txs) != 0 {
				t.Errorf("behind %d: %d, not %d", end, counted(s), want)
			}
		}
	}
}
