package tests

import (
	"fmt"
	"slices"
	"strings"
	"testing"

	"loop.example/ashlar/impl"
)

func frameOf(m impl.Msg) string { return impl.FramePut(impl.MsgPut(m)) }

func framesOf(msgs ...impl.Msg) string {
	all := ""
	for _, m := range msgs {
		all += frameOf(m)
	}
	return all
}

// unframed is what frames of replies tell; a test fails, if there is anything else in them.
func unframed(t *testing.T, told string) string {
	t.Helper()
	var all []string
	for told != "" {
		body, size := impl.FrameGet(told)
		if _, ok := impl.ReplyGet(body); size <= 0 || !ok {
			t.Fatalf("%.200q is no frame of a reply", told)
		}
		all = append(all, body)
		told = told[size:]
	}
	return strings.Join(all, ";")
}

func newServer(t *testing.T, links int, names ...string) impl.Server {
	t.Helper()
	s, ok := impl.ServerNew(names, nameRule(), links)
	if !ok {
		t.Fatal("no server")
	}
	return s
}

// mustHear does what comes of a link, and asks for what is told.
func mustHear(t *testing.T, s impl.Server, link int, come string, want string) impl.Server {
	t.Helper()
	s, told := impl.ServerDo(s, impl.Event{Link: link, Text: come})
	if got := unframed(t, told); got != want {
		t.Fatalf("%d, %.200q: %q, not %q", link, come, got, want)
	}
	return s
}

// busyServer has two stores; link 0 has something under way in the first, in the midst of rows; link 1 has something under way there, too, and part of a frame; link 2 talks to the other one, which somebody has written into.
func busyServer(t *testing.T) impl.Server {
	t.Helper()
	s := newServer(t, 3, "home", "away")
	s = mustHear(t, s, 2, framesOf(msgHello("home"), msgRun("CREATE (:P {name: 'ann', l: $l})-[:K]->(:P {name: 'bob'})", cell("l", list(num(1), list(text("x"))))), msgOf(impl.MsgBye)), "ok;ok")
	s = mustHear(t, s, 0, framesOf(msgHello("home"), msgOf(impl.MsgBegin), msgRun("CREATE (:Q) RETURN 1 AS x"), msgOf(impl.MsgDrop), msgRun("MATCH (a) RETURN a AS a, a.l AS l"), msgPull(1)), "ok;ok;more x;ok;more a l;row [#0, [1, ['x']]];more")
	s = mustHear(t, s, 1, framesOf(msgHello("home"), msgOf(impl.MsgBegin), msgRun("MATCH (a:P) SET a.n = 1"))+"15:2 0 7 CRE", "ok;ok;ok")
	s, _ = impl.ServerDo(s, impl.Event{Link: 2, Cut: true})
	return mustHear(t, s, 2, framesOf(msgHello("away"), msgRun("CREATE (a:P)"), msgOf(impl.MsgKeep)), "ok;ok;fail 8")
}

func TestBusyServerIsAsItSays(t *testing.T) {
	s := busyServer(t)
	for i, want := range []impl.Link{{Talk: impl.Talk{Mode: impl.TalkFlow, Tx: 0, At: 1}}, {Talk: talkOf(impl.TalkReady, 1), Left: "15:2 0 7 CRE"}, {Talk: talkOf(impl.TalkFailed, -1), Home: 1}} {
		got := s.Links[i]
		got.Talk.Table = impl.Table{}
		if !same(got, want) {
			t.Errorf("%d: %+v", i, s.Links[i])
		}
	}
	if len(s.Homes[0].Store.Txs) != 2 || len(s.Homes[0].Store.Graph.Nodes) != 2 || len(s.Homes[1].Store.Graph.Nodes) != 1 || len(s.Links[0].Talk.Table.Rows) != 3 || !impl.ServerOk(s) {
		t.Errorf("%+v", s)
	}
}

// Promise 66: a server begins with stores that have nothing, to which nobody talks.
func TestPromise66ServerBegins(t *testing.T) {
	fresh := impl.Link{Talk: talkOf(impl.TalkFresh, -1), Home: -1}
	for _, names := range [][]string{{"a"}, {"b", "a"}, {"abcdefgh", "Z9", "a"}} {
		for _, rules := range someRules() {
			for links := 1; links <= impl.LinkMax; links++ {
				var want impl.Server
				for _, name := range names {
					want.Homes = append(want.Homes, impl.Home{Name: name, Store: newStore(t, rules)})
				}
				want.Links = slices.Repeat([]impl.Link{fresh}, links)
				s, ok := impl.ServerNew(names, rules, links)
				if !ok || !same(s, want) || !impl.ServerOk(s) {
					t.Errorf("%v %d: %v %+v", names, links, ok, s)
				}
				if s, told := impl.ServerPlay(names, rules, links, nil); !same(s, want) || !slices.Equal(told, make([]string, links)) {
					t.Errorf("%v %d: %q %+v", names, links, told, s)
				}
			}
		}
	}
	wantNone := func(names []string, rules []impl.Rule, links int) {
		t.Helper()
		if s, ok := impl.ServerNew(names, rules, links); ok || !same(s, impl.Server{}) {
			t.Errorf("%.100q %d: %+v", names, links, s)
		}
		if s, told := impl.ServerPlay(names, rules, links, []impl.Event{{Text: "x"}}); len(told) != 0 || !same(s, impl.Server{}) {
			t.Errorf("%.100q %d: %+v %q", names, links, s, told)
		}
	}
	for _, names := range [][]string{nil, {}, {"a", "b", "c", "d"}, {"a", "a"}, {"a", "b", "a"}} {
		wantNone(names, nil, 1)
	}
	for _, name := range noNames {
		wantNone([]string{name}, nil, 1)
		wantNone([]string{"a", name}, nil, 1)
	}
	for _, links := range []int{0, -1, impl.LinkMax + 1, 1 << 62, -1 << 63} {
		wantNone([]string{"a"}, nil, links)
	}
	for _, rules := range wrongRules() {
		wantNone([]string{"a"}, rules, 1)
	}
}

// okServers is servers that are ok, each by something done to busyServer.
func okServers(t *testing.T) map[string]impl.Server {
	all := map[string]impl.Server{"one of each": newServer(t, 1, "a"), "as many as may be": newServer(t, impl.LinkMax, "a", "b", "c")}
	busy := func(name string, change func(s *impl.Server)) {
		s := busyServer(t)
		change(&s)
		all[name] = s
	}
	busy("busy", func(s *impl.Server) {})
	busy("two of another one's", func(s *impl.Server) { s.Links[0], s.Links[1] = s.Links[1], s.Links[0] })
	busy("ended in a store", func(s *impl.Server) { s.Links[2].Talk = talkOf(impl.TalkOver, -1) })
	busy("ended in none", func(s *impl.Server) { s.Links[2] = impl.Link{Talk: talkOf(impl.TalkOver, -1), Home: -1} })
	busy("in no store", func(s *impl.Server) { s.Links[2] = impl.Link{Talk: talkOf(impl.TalkFresh, -1), Home: -1} })
	busy("in no store, with part of a frame", func(s *impl.Server) {
		s.Links[2] = impl.Link{Talk: talkOf(impl.TalkFresh, -1), Home: -1, Left: "6000"}
	})
	busy("all but the end of a frame", func(s *impl.Server) { s.Links[2].Left = "6000:" + strings.Repeat("x", impl.BodyMax) })
	busy("in the other store", func(s *impl.Server) { s.Links[2].Home = 0 })
	busy("nobody has anything", func(s *impl.Server) {
		s.Homes[0].Store.Txs = nil
		s.Links = s.Links[2:]
	})
	busy("other rules in each store", func(s *impl.Server) { s.Homes[1].Store.Rules = nil })
	return all
}

// wrongServers is servers that are not ok, each by one thing done to busyServer.
func wrongServers(t *testing.T) map[string]impl.Server {
	all := map[string]impl.Server{"nothing": {}}
	busy := func(name string, spoil func(s *impl.Server)) {
		s := busyServer(t)
		spoil(&s)
		all[name] = s
	}
	busy("no links", func(s *impl.Server) { s.Links = nil; s.Homes[0].Store.Txs = nil })
	busy("too many links", func(s *impl.Server) {
		s.Links = append(s.Links, impl.Link{Talk: talkOf(impl.TalkFresh, -1), Home: -1})
	})
	busy("no stores", func(s *impl.Server) {
		*s = impl.Server{Links: []impl.Link{{Talk: talkOf(impl.TalkFresh, -1), Home: -1}}}
	})
	busy("too many stores", func(s *impl.Server) { s.Homes = append(s.Homes, impl.Home{Name: "b"}, impl.Home{Name: "c"}) })
	busy("a name twice", func(s *impl.Server) { s.Homes[1].Name = "home" })
	for i, name := range noNames {
		busy(fmt.Sprint("no name ", i), func(s *impl.Server) { s.Homes[1].Name = name })
	}
	for what, store := range wrongStores(t) {
		busy("a store: "+what, func(s *impl.Server) { s.Homes[1].Store = store; s.Links[2].Home = 0 })
	}
	for i, left := range []string{"0:\n", "1:a\n", "1:a\nx", "x", "01", "6001", ":", "1:ab"} {
		busy(fmt.Sprint("left ", i), func(s *impl.Server) { s.Links[1].Left = left })
	}
	busy("left of who is over", func(s *impl.Server) { s.Links[2].Talk.Mode = impl.TalkOver; s.Links[2].Left = "1" })
	for _, home := range []int{-2, 2, 3, 1 << 62} {
		busy(fmt.Sprint("in store ", home), func(s *impl.Server) { s.Links[2].Home = home })
		busy(fmt.Sprint("over in store ", home), func(s *impl.Server) { s.Links[2] = impl.Link{Talk: talkOf(impl.TalkOver, -1), Home: home} })
	}
	for _, mode := range []int{impl.TalkReady, impl.TalkFailed, impl.TalkFlow} {
		busy(fmt.Sprint("in no store, of mode ", mode), func(s *impl.Server) { s.Links[2].Talk.Mode = mode; s.Links[2].Home = -1 })
	}
	busy("in no store, with rows", func(s *impl.Server) { s.Links[2] = impl.Link{Talk: flowOf(-1, 0), Home: -1} })
	busy("fresh in a store", func(s *impl.Server) { s.Links[2].Talk.Mode = impl.TalkFresh })
	busy("in the store that does not have it", func(s *impl.Server) { s.Links[0].Home = 1 })
	busy("two have the same", func(s *impl.Server) { s.Links[0].Talk.Tx = 1 })
	busy("three have two", func(s *impl.Server) { s.Links[2].Home = 0; s.Links[2].Talk.Tx = 0 })
	busy("nobody has it", func(s *impl.Server) { s.Links[0].Talk.Tx = -1 })
	busy("nobody has it in the other store", func(s *impl.Server) { s.Homes[1].Store, _ = mustBegin(t, s.Homes[1].Store) })
	busy("nobody has one more", func(s *impl.Server) { s.Homes[0].Store, _ = mustBegin(t, s.Homes[0].Store) })
	busy("it is not under way", func(s *impl.Server) { s.Links[2].Talk.Tx = 0 })
	busy("one is over with it", func(s *impl.Server) { s.Links[1].Talk.Mode = impl.TalkOver; s.Links[1].Left = "" })
	for i, talk := range wrongTalks() {
		if talk.Tx < 0 {
			busy(fmt.Sprint("talk ", i), func(s *impl.Server) { s.Links[2].Talk = talk })
			busy(fmt.Sprint("talk in no store ", i), func(s *impl.Server) { s.Links[2] = impl.Link{Talk: talk, Home: -1} })
		}
	}
	return all
}

func TestServerOk(t *testing.T) {
	for what, s := range okServers(t) {
		if !impl.ServerOk(s) {
			t.Errorf("%s: not ok", what)
		}
	}
	for what, s := range wrongServers(t) {
		if impl.ServerOk(s) {
			t.Errorf("%s: ok", what)
		}
	}
}

// What is not ok has one fixed answer; what cannot come leaves all as it is.
func TestServerDoOfWhatIsNotOk(t *testing.T) {
	for what, s := range wrongServers(t) {
		for _, e := range []impl.Event{{}, {Text: frameOf(msgHello("home"))}, {Link: 1, Cut: true}, {Link: 7}} {
			if got, told := impl.ServerDo(s, e); !same(got, impl.Server{}) || told != "" {
				t.Errorf("%s: %+v %q", what, got, told)
			}
		}
	}
	s, long := busyServer(t), strings.Repeat("x", 8001)
	for _, e := range []impl.Event{{Link: -1, Cut: true}, {Link: 3, Cut: true}, {Link: -1, Text: "x"}, {Link: 3, Text: "x"}, {Link: 1 << 62, Text: "x"}, {Text: long}, {Link: 1, Text: long}, {Cut: true, Text: long}} {
		if got, told := impl.ServerDo(s, e); !same(got, s) || told != "" {
			t.Errorf("%d %v: %+v %q", e.Link, e.Cut, got, told)
		}
	}
	if got, told := impl.ServerDo(s, impl.Event{Text: long[1:]}); got.Links[0].Talk.Mode != impl.TalkOver || unframed(t, told) != "fail 8" {
		t.Errorf("%+v %q", got.Links[0], told)
	}
	if got, told := impl.ServerDo(s, impl.Event{Cut: true, Text: long[1:]}); !same(got.Links[0], impl.Link{Talk: talkOf(impl.TalkFresh, -1), Home: -1}) || told != "" {
		t.Errorf("%+v %q", got.Links[0], told)
	}
}

// As many bytes as may come at once, in front of them as many as may be left.
func TestServerDoTakesAsMuchAsMayCome(t *testing.T) {
	bye := msgRun(strings.Repeat(" ", 900))
	frame, s := frameOf(bye), newServer(t, 1, "home")
	s = mustHear(t, s, 0, frameOf(msgHello("home")), "ok")
	come := strings.Repeat(frame, 9)[:8000]
	left, told := impl.ServerDo(s, impl.Event{Text: come})
	if want := "fail 8" + strings.Repeat(";past", 7); unframed(t, told) != want || left.Links[0].Left != come[8*len(frame):] {
		t.Errorf("%q %d", told, len(left.Links[0].Left))
	}
	most := impl.FramePut(strings.Repeat("x", impl.BodyMax))
	s = mustHear(t, s, 0, most[:len(most)-1], "")
	if got, told := impl.ServerDo(s, impl.Event{Text: "\n" + come[:7999]}); unframed(t, told) != "fail 8" || got.Links[0].Talk.Mode != impl.TalkOver || got.Links[0].Left != "" {
		t.Errorf("%q", told)
	}
}

// slowServerDo does what comes a second way, by what other chapters export, to a server that is ok.
func slowServerDo(s impl.Server, e impl.Event) (impl.Server, string) {
	s = tidy(s)
	if e.Link < 0 || e.Link >= len(s.Links) || len(e.Text) > 8000 {
		return s, ""
	}
	l := &s.Links[e.Link]
	end := func(code int) string {
		if l.Talk.Tx != -1 {
			s.Homes[l.Home].Store, _ = impl.TxBack(s.Homes[l.Home].Store, l.Talk.Tx)
		}
		l.Talk, l.Left = talkOf(impl.TalkOver, -1), ""
		return impl.FramePut(fmt.Sprint("fail ", code))
	}
	if e.Cut {
		end(0)
		*l = impl.Link{Talk: talkOf(impl.TalkFresh, -1), Home: -1}
		return s, ""
	}
	told := ""
	for l.Left += e.Text; l.Talk.Mode != impl.TalkOver; {
		body, size := impl.FrameGet(l.Left)
		m, ok := impl.MsgGet(body)
		switch {
		case size == 0:
			return s, told
		case size < 0 || !ok:
			told += end(impl.ErrForm)
			continue
		}
		l.Left = l.Left[size:]
		if l.Talk.Mode == impl.TalkFresh && m.Kind == impl.MsgHello {
			l.Home = slices.IndexFunc(s.Homes, func(h impl.Home) bool { return h.Name == m.Text })
			if l.Home < 0 {
				told += end(impl.ErrName)
				continue
			}
		}
		var replies []impl.Reply
		if l.Home < 0 {
			_, l.Talk, replies = impl.TalkDo(impl.Store{}, l.Talk, m)
		} else {
			s.Homes[l.Home].Store, l.Talk, replies = impl.TalkDo(s.Homes[l.Home].Store, l.Talk, m)
		}
		for _, r := range replies {
			told += impl.FramePut(impl.ReplyPut(r))
		}
	}
	l.Left = ""
	return s, told
}

// checkServerDo asks that what comes is done as it is a second way, and that promises 67, 68 and 70 hold of it.
func checkServerDo(t *testing.T, s impl.Server, e impl.Event) (impl.Server, string) {
	t.Helper()
	got, told := impl.ServerDo(s, e)
	want, wantTold := slowServerDo(s, e)
	if !same(got, want) || told != wantTold {
		t.Fatalf("%+.300q: %q, not %q\n%+v\nnot %+v", fmt.Sprint(e), told, wantTold, got, want)
	}
	if unframed(t, told); !impl.ServerOk(got) {
		t.Fatalf("%+.300q: not ok: %+v", fmt.Sprint(e), got)
	}
	return got, told
}

// stream is what somebody sends, of which a part came.
type stream struct {
	left string
}

// next is the next bytes, cut anywhere; a new frame is sent, if nothing is left of the ones ahead.
func (r *stream) next(d *dice, l impl.Link) string {
	for r.left == "" || d.roll(3) == 0 {
		r.left += r.frame(d, l)
	}
	size := len(r.left)
	if d.roll(3) == 0 {
		size = d.roll(size + 1)
	}
	come := r.left[:size]
	r.left = r.left[size:]
	return come
}

func (r *stream) frame(d *dice, l impl.Link) string {
	switch d.roll(120) {
	case 0:
		return []string{"x", "01", "3:abc", "1:a\n", "6001:", "0:\n", impl.FramePut("3 61 0 ")}[d.roll(7)]
	case 1, 2:
		return frameOf(msgHello([]string{"home", "away", "none"}[d.roll(3)]))
	}
	m := someMsg(d, l.Talk)
	if m.Kind == impl.MsgHello && d.roll(3) == 0 {
		m = msgHello("away")
	}
	return frameOf(m)
}

// someEvents is what comes of links that talk to a server, one behind the other, and what the server is then; it tells each step.
func someEvents(t *testing.T, d *dice, count int, step func(before impl.Server, e impl.Event, after impl.Server, told string)) {
	t.Helper()
	s, ok := impl.ServerNew([]string{"home", "away"}, walkRules(), 3)
	if !ok {
		t.Fatal("no server")
	}
	streams := make([]stream, 3)
	for range count {
		e := impl.Event{Link: d.roll(3)}
		if e.Cut = d.roll(30) == 0 || (s.Links[e.Link].Talk.Mode == impl.TalkOver && d.roll(5) > 0); e.Cut {
			streams[e.Link] = stream{}
		} else {
			e.Text = streams[e.Link].next(d, s.Links[e.Link])
		}
		if d.roll(40) == 0 {
			e.Link = []int{-1, 3, 77}[d.roll(3)]
		}
		after, told := checkServerDo(t, s, e)
		step(s, e, after, told)
		s = after
	}
}

// Promises 67 and 68: whatever comes, a server is ok, and it is done as it is a second way; nobody else's link changes, nor a store that the link does not talk to.
func TestPromise67WhateverComes(t *testing.T) {
	d, met := dice(77), map[string]int{}
	for range 30 {
		someEvents(t, &d, 80, func(before impl.Server, e impl.Event, after impl.Server, told string) {
			for _, reply := range strings.Split(unframed(t, told), ";") {
				met[strings.SplitN(reply, " ", 2)[0]]++
			}
			for i := range before.Links {
				if i != e.Link && !same(before.Links[i], after.Links[i]) {
					t.Fatalf("%+v: link %d is another one", e, i)
				}
			}
			for i := range before.Homes {
				mine := e.Link >= 0 && e.Link < 3 && (before.Links[e.Link].Home == i || after.Links[e.Link].Home == i)
				if !mine && !same(before.Homes[i], after.Homes[i]) {
					t.Fatalf("%+v: store %d is another one", e, i)
				}
			}
			if e.Cut && e.Link >= 0 && e.Link < 3 {
				met[fmt.Sprint("cut of ", before.Links[e.Link].Talk.Mode, before.Links[e.Link].Talk.Tx != -1, before.Links[e.Link].Left != "")]++
			}
		})
	}
	for _, what := range []string{"ok", "more", "row", "fail", "past", "cut of 0 false false", "cut of 1 false false", "cut of 1 true false", "cut of 2 true false", "cut of 3 true false", "cut of 4 false false", "cut of 1 true true"} {
		if met[what] == 0 {
			t.Errorf("%s came never: %v", what, met)
		}
	}
}

// Promise 68: what one says is nothing to whoever talks to another store.
func TestPromise68NothingToAnotherStore(t *testing.T) {
	s := busyServer(t)
	for _, come := range []string{framesOf(msgOf(impl.MsgReset), msgRun("CREATE (:Q)"), msgOf(impl.MsgBegin), msgRun("CREATE (:Q)")), frameOf(msgOf(impl.MsgBye)), "x", ""} {
		got, _ := checkServerDo(t, s, impl.Event{Link: 2, Text: come})
		if !same(got.Homes[0], s.Homes[0]) || !same(got.Links[:2], s.Links[:2]) {
			t.Errorf("%q: %+v", come, got)
		}
		got, _ = checkServerDo(t, s, impl.Event{Link: 1, Text: come})
		if !same(got.Homes[1], s.Homes[1]) || !same(got.Links[0], s.Links[0]) || !same(got.Links[2], s.Links[2]) {
			t.Errorf("%q: %+v", come, got)
		}
	}
}

// checkPieces asks that bytes in two pieces, cut at a place, do what they do at once.
func checkPieces(t *testing.T, s impl.Server, e impl.Event, at int, want impl.Server, wantTold string) {
	t.Helper()
	first, told1 := impl.ServerDo(s, impl.Event{Link: e.Link, Text: e.Text[:at]})
	second, told2 := impl.ServerDo(first, impl.Event{Link: e.Link, Text: e.Text[at:]})
	if told1+told2 != wantTold || !same(second, want) || !impl.ServerOk(first) {
		t.Fatalf("%.300q at %d: %q %q, not %q", e.Text, at, told1, told2, wantTold)
	}
}

// Promise 69: bytes that come in two pieces do what they do at once.
func TestPromise69TwoPieces(t *testing.T) {
	d := dice(19)
	for range 6 {
		someEvents(t, &d, 40, func(before impl.Server, e impl.Event, after impl.Server, told string) {
			if !e.Cut && e.Link >= 0 && e.Link < 3 {
				checkPieces(t, before, e, d.roll(len(e.Text)+1), after, told)
			}
		})
	}
	fresh := newServer(t, 1, "home")
	for _, come := range []string{
		framesOf(msgHello("home"), msgOf(impl.MsgBegin), msgRun("CREATE (a:P {name: $n}) RETURN a AS a", cell("n", text("a: b"))), msgPull(2), msgOf(impl.MsgKeep), msgRun("a\n0:\n"), msgOf(impl.MsgReset), msgOf(impl.MsgBye)),
		framesOf(msgHello("home"), msgOf(impl.MsgBegin)) + "1:ab" + frameOf(msgOf(impl.MsgReset)), frameOf(msgHello("none")) + "x", "01:", "x", frameOf(msgHello("home")) + "6001:abc", impl.FramePut("") + "0:\n", frameOf(msgRun("")) + frameOf(msgHello("home")),
	} {
		e := impl.Event{Text: come}
		want, told := checkServerDo(t, fresh, e)
		for at := range len(come) + 1 {
			checkPieces(t, fresh, e, at, want, told)
		}
		s, all := fresh, ""
		for i := range come {
			var told string
			s, told = impl.ServerDo(s, impl.Event{Text: come[i : i+1]})
			all += told
		}
		if all != told || !same(s, want) {
			t.Errorf("%q byte by byte: %q, not %q", come, all, told)
		}
	}
}

// Promise 70: whoever is gone leaves nothing under way; no graph is otherwise, and the link is new.
func TestPromise70WhoeverIsGone(t *testing.T) {
	gone := func(s impl.Server, link int) {
		t.Helper()
		got, told := checkServerDo(t, s, impl.Event{Link: link, Cut: true, Text: frameOf(msgHello("home"))})
		if told != "" || !same(got.Links[link], impl.Link{Talk: talkOf(impl.TalkFresh, -1), Home: -1}) {
			t.Fatalf("%q %+v", told, got.Links[link])
		}
		for i := range s.Homes {
			want, tx := s.Homes[i].Store, s.Links[link].Talk.Tx
			if at := slices.IndexFunc(want.Txs, func(x impl.Tx) bool { return x.Id == tx }); at >= 0 && s.Links[link].Home == i {
				want = without(want, at)
			}
			if !same(got.Homes[i].Store, want) {
				t.Fatalf("link %d: %+v, not %+v", link, got.Homes[i].Store, want)
			}
		}
	}
	for _, s := range okServers(t) {
		for link := range s.Links {
			gone(s, link)
		}
	}
	d := dice(4)
	someEvents(t, &d, 120, func(before impl.Server, e impl.Event, after impl.Server, told string) { gone(after, d.roll(3)) })
	s := busyServer(t)
	s, _ = impl.ServerDo(s, impl.Event{Cut: true})
	s = mustHear(t, s, 1, "ATE (a)", "fail 8")
	s, _ = impl.ServerDo(s, impl.Event{Link: 1, Cut: true})
	mustHear(t, s, 1, framesOf(msgHello("home"), msgRun("MATCH (a) RETURN a AS a, a.n AS n"), msgPull(9)), "ok;more a n;row [#0, null];row [#1, null];ok")
}

// Promise 71: behind what is no frame, or says nothing, nobody is heard any more.
func TestPromise71NobodyIsHeard(t *testing.T) {
	later := []string{frameOf(msgHello("home")), frameOf(msgOf(impl.MsgReset)), frameOf(msgOf(impl.MsgBye)), "x", "", "0:\n"}
	for _, bad := range []string{"x", "01", "00", ":", "6001", "9999:", "1:ab", "0:\n", "0:x", impl.FramePut("x"), impl.FramePut("3 0 0 "), impl.FramePut("1 0 1 9"), impl.FramePut("8 0 0"), impl.FramePut("2 0 0 \nx"), impl.FramePut(strings.Repeat("z", impl.BodyMax))} {
		for _, begin := range []string{"", frameOf(msgHello("home")), framesOf(msgHello("home"), msgOf(impl.MsgBegin), msgRun("CREATE (a)")), framesOf(msgHello("home"), msgOf(impl.MsgBegin), msgRun("RETURN 1 AS x")), framesOf(msgHello("home"), msgOf(impl.MsgKeep))} {
			s := newServer(t, 2, "home")
			s, ahead := checkServerDo(t, s, impl.Event{Text: begin})
			for _, behind := range later {
				got, told := checkServerDo(t, s, impl.Event{Text: bad + behind})
				if unframed(t, told) != "fail 8" || !same(got.Links[0], impl.Link{Talk: talkOf(impl.TalkOver, -1), Home: s.Links[0].Home}) || len(got.Homes[0].Store.Txs) != 0 || !same(got.Homes[0].Store.Graph, impl.Graph{}) {
					t.Fatalf("%.50q behind %q: %q %+v", bad, begin, told, got)
				}
				for _, come := range later {
					if after, told := impl.ServerDo(got, impl.Event{Text: come}); told != "" || !same(after, got) {
						t.Errorf("%.50q, then %q: %q %+v", bad, come, told, after.Links[0])
					}
				}
			}
			if _, told := checkServerDo(t, newServer(t, 2, "home"), impl.Event{Text: begin + bad}); told != ahead+impl.FramePut("fail 8") {
				t.Errorf("%.50q at once with %q: %q", bad, begin, told)
			}
		}
	}
}

// Whoever ended it is not heard any more, nor told anything, until they are cut off.
func TestPromise71WhoeverEndedIt(t *testing.T) {
	s := mustHear(t, newServer(t, 1, "home"), 0, framesOf(msgHello("home"), msgOf(impl.MsgBye), msgHello("home"))+"x", "ok")
	s = mustHear(t, s, 0, frameOf(msgHello("home")), "")
	if !same(s.Links[0], impl.Link{Talk: talkOf(impl.TalkOver, -1)}) {
		t.Errorf("%+v", s.Links[0])
	}
	s, _ = impl.ServerDo(s, impl.Event{Cut: true})
	mustHear(t, s, 0, frameOf(msgHello("home")), "ok")
	s = mustHear(t, newServer(t, 1, "home"), 0, frameOf(msgOf(impl.MsgBye)), "")
	if !same(s.Links[0], impl.Link{Talk: talkOf(impl.TalkOver, -1), Home: -1}) {
		t.Errorf("bye without a store: %+v", s.Links[0])
	}
	s = mustHear(t, newServer(t, 1, "home"), 0, frameOf(msgRun("RETURN 1 AS x"))+frameOf(msgHello("home")), "fail 8")
	if !same(s.Links[0], impl.Link{Talk: talkOf(impl.TalkOver, -1), Home: -1}) {
		t.Errorf("something else than hello: %+v", s.Links[0])
	}
}

// Promise 72: ServerPlay is ServerDo of each, one behind the other; what cannot be done is passed over.
func TestPromise72AllThatComes(t *testing.T) {
	d, names := dice(23), []string{"home", "away"}
	for range 12 {
		var list []impl.Event
		all := make([]string, 3)
		someEvents(t, &d, 30, func(before impl.Server, e impl.Event, after impl.Server, told string) {
			list = append(list, e)
			if e.Link >= 0 && e.Link < 3 {
				all[e.Link] += told
			}
			got, gotTold := impl.ServerPlay(names, walkRules(), 3, list)
			if !same(got, after) || !slices.Equal(gotTold, all) {
				t.Fatalf("%+v: %q, not %q", list, gotTold, all)
			}
		})
	}
	list := slices.Repeat([]impl.Event{{Text: "x"}}, 30)
	if s, told := impl.ServerPlay(names, nil, 2, list); !impl.ServerOk(s) || !slices.Equal(told, []string{impl.FramePut("fail 8"), ""}) {
		t.Errorf("as many as may be: %q", told)
	}
	for _, more := range []impl.Event{{}, {Link: 77}, {Text: strings.Repeat("x", 8001)}} {
		if s, told := impl.ServerPlay(names, nil, 2, append(list, more)); !same(s, impl.Server{}) || len(told) != 0 {
			t.Errorf("one more: %q", told)
		}
	}
	long := impl.Event{Text: strings.Repeat("x", 8001)}
	if s, told := impl.ServerPlay(names, nil, 2, []impl.Event{{Link: -1}, {Link: 2, Text: "x"}, long, {Cut: true, Text: long.Text}, {Link: 1, Text: frameOf(msgHello("away"))}}); !slices.Equal(told, []string{"", impl.FramePut("ok")}) || s.Links[1].Home != 1 {
		t.Errorf("%q", told)
	}
}

// Promise 73: who talks to a server alone is told what a talk tells.
func TestPromise73WhoTalksAlone(t *testing.T) {
	d := dice(29)
	for range 60 {
		msgs, talk, store := []impl.Msg{msgHello("home")}, talkOf(impl.TalkReady, -1), newStore(t, walkRules())
		for len(msgs) < 30 {
			if m := someMsg(&d, talk); impl.MsgOk(m) && (m.Kind != impl.MsgBye || d.roll(4) == 0) {
				msgs = append(msgs, m)
				store, talk, _ = impl.TalkDo(store, talk, m)
			}
		}
		var list []impl.Event
		for _, m := range msgs {
			list = append(list, impl.Event{Text: frameOf(m)})
		}
		wantStore, wantTalk, replies := impl.TalkPlay(walkRules(), msgs)
		want := ""
		for _, r := range replies {
			want += impl.FramePut(impl.ReplyPut(r))
		}
		s, told := impl.ServerPlay([]string{"home"}, walkRules(), 1, list)
		if told[0] != want || !same(s.Homes[0].Store, wantStore) || !same(s.Links[0].Talk, wantTalk) {
			t.Fatalf("%+v: %q, not %q", msgs, told, want)
		}
	}
}

// Promise 88: who greets a store that there is talks to it, and who greets another one is not heard any more.
func TestPromise88WhoGreets(t *testing.T) {
	names := []string{"home", "away", "h"}
	fresh := newServer(t, 2, names...)
	for i, name := range names {
		s := mustHear(t, fresh, 1, frameOf(msgHello(name)), "ok")
		if !same(s.Links[1], impl.Link{Talk: talkOf(impl.TalkReady, -1), Home: i}) || !same(s.Links[0], fresh.Links[0]) || !same(s.Homes, fresh.Homes) {
			t.Errorf("%s: %+v", name, s.Links)
		}
		s = mustHear(t, s, 1, frameOf(msgRun("CREATE (a)")), "ok")
		for k, h := range s.Homes {
			if (len(h.Store.Graph.Nodes) == 1) != (k == i) {
				t.Errorf("%s: %+v", name, h)
			}
		}
		s = mustHear(t, s, 1, frameOf(msgHello(names[(i+1)%3])), "fail 8")
		if s.Links[1].Home != i || s.Links[1].Talk.Mode != impl.TalkFailed {
			t.Errorf("greeted twice: %+v", s.Links[1])
		}
	}
	for _, name := range []string{"none", "Home", "homes", "hom", "a"} {
		s := mustHear(t, fresh, 1, frameOf(msgHello(name))+frameOf(msgHello("home"))+"x", "fail 3")
		if want := (impl.Link{Talk: talkOf(impl.TalkOver, -1), Home: -1}); !same(s.Links[1], want) {
			t.Errorf("%s: %+v", name, s.Links[1])
		}
		for _, come := range []string{frameOf(msgHello("home")), frameOf(msgOf(impl.MsgReset)), "x", "1"} {
			if got, told := impl.ServerDo(s, impl.Event{Link: 1, Text: come}); told != "" || !same(got, s) {
				t.Errorf("%s, then %q: %q", name, come, told)
			}
		}
		s, _ = impl.ServerDo(s, impl.Event{Link: 1, Cut: true})
		mustHear(t, s, 1, frameOf(msgHello("away")), "ok")
	}
}

// Promises 81 and 89: what one makes another one counts, as soon as it is kept; who talks to another store does not.
func TestPromise89WhatOneKeepsAnotherFinds(t *testing.T) {
	count := framesOf(msgRun("MATCH (a:P) RETURN count(*) AS c"), msgPull(1))
	counted := func(n int) string { return fmt.Sprintf("more c;row [%d];ok", n) }
	s := newServer(t, 3, "home", "away")
	for link, name := range []string{"home", "home", "away"} {
		s = mustHear(t, s, link, frameOf(msgHello(name)), "ok")
	}
	for made := range 4 {
		s = mustHear(t, s, made%2, frameOf(msgRun("CREATE (a:P)")), "ok")
		s = mustHear(t, s, 0, count, counted(made+1))
		s = mustHear(t, s, 1, count, counted(made+1))
		s = mustHear(t, s, 2, count, counted(0))
	}
	s = mustHear(t, s, 1, framesOf(msgOf(impl.MsgBegin), msgRun("CREATE (a:P), (b:P)"))+count, "ok;ok;"+counted(6))
	s = mustHear(t, s, 0, count, counted(4))
	kept := mustHear(t, s, 1, frameOf(msgOf(impl.MsgKeep)), "ok")
	mustHear(t, kept, 0, count, counted(6))
	mustHear(t, mustHear(t, s, 1, frameOf(msgOf(impl.MsgBack)), "ok"), 0, count, counted(4))
	cut, _ := impl.ServerDo(s, impl.Event{Link: 1, Cut: true})
	mustHear(t, cut, 0, count, counted(4))
	first := mustHear(t, s, 0, frameOf(msgRun("CREATE (:Q)")), "ok")
	late := mustHear(t, first, 1, frameOf(msgOf(impl.MsgKeep)), "fail 9")
	mustHear(t, late, 0, count, counted(4))
	if len(late.Homes[0].Store.Txs) != 0 {
		t.Errorf("%+v", late.Homes[0].Store.Txs)
	}
}
