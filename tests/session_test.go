package tests

import (
	"fmt"
	"runtime"
	"slices"
	"strings"
	"sync"
	"testing"
	"time"

	"loop.example/ashlar/impl"
)

// exampleLines is the document's example: each line, and the lines that are told of it.
func exampleLines() [][2]string {
	return [][2]string{
		{"0 hello home", "ok\n"},
		{"1 hello home", "ok\n"},
		{"0 run CREATE (a:P {name: 'ann', n: 3})-[e:KNOWS]->(b:P {name: 'bob'}) RETURN a AS a, e AS e", "more a e\n"},
		{"0 pull 5", "row [#0, @0]\nok\n"},
		{"0 run CREATE (:P {name: 'bob'})", "fail 7\n"},
		{"0 pull 1", "past\n"},
		{"0 reset", "ok\n"},
		{"1 begin", "ok\n"},
		{"1 run MATCH (a:P) WHERE (a.n < 5) SET a.n = (a.n + 1) RETURN a.name AS name, a.n AS n", "more name n\n"},
		{"1 pull 1", "row ['ann', 4]\nok\n"},
		{"0 run MATCH (a:P) RETURN sum(a.n) AS s, count(*) AS c", "more s c\n"},
		{"0 pull 9", "row [3, 2]\nok\n"},
		{"0 run MATCH (a:P {name: 'bob'}) SET a.n = 1", "ok\n"},
		{"1 keep", "fail 9\n"},
		{"1 keep", "past\n"},
		{"1 reset", "ok\n"},
		{"0 run MATCH (a)-[e]->(b) DELETE a", "fail 6\n"},
		{"0 reset", "ok\n"},
		{"0 run MATCH (a {name: 'ann'}) DETACH DELETE a", "ok\n"},
		{"0 run OPTIONAL MATCH (a:P)-[e]-(b) RETURN a AS a, b AS b", "more a b\n"},
		{"0 pull 2", "row [null, null]\nok\n"},
		{"0 run UNWIND [3, 1, 2] AS x WITH x AS x ORDER BY x DESC LIMIT 2 RETURN (x + $p) AS y", "fail 3\n"},
		{"0 reset", "ok\n"},
		{"0 run UNWIND [3, 1, 2] AS x WITH x AS x ORDER BY x DESC LIMIT 2 RETURN (x + 1) AS y", "more y\n"},
		{"0 pull 1", "row [4]\nmore\n"},
		{"0 drop", "ok\n"},
		{"0 what", "what\n"},
		{"1 -", ""},
		{"1 run MATCH (a) RETURN a AS a", "fail 8\n"},
		{"1 hello home", ""},
		{"0 bye", ""},
	}
}

// checkSession asks that lines tell what stands beside them, however many of them are done.
func checkSession(t *testing.T, lines [][2]string) {
	t.Helper()
	var said []string
	want := ""
	for _, line := range lines {
		said, want = append(said, line[0]), want+line[1]
		if got := impl.Session(said); got != want {
			t.Fatalf("%.100q: %q, not %q", line[0], got, want)
		}
	}
}

// Promise 74, and the document's example line by line.
func TestPromise74Example(t *testing.T) {
	checkSession(t, exampleLines())
	if got := impl.Session(nil); got != "" {
		t.Errorf("%q", got)
	}
}

// What is none of the lines that there are is told so, and does nothing; what is not ok is none.
func TestSessionOfOtherLines(t *testing.T) {
	other := []string{
		"", " ", "0", "1", "0 ", "0  ", "2 hello home", "2 -", "7 bye", "-1 bye", "+0 bye", "00 bye", "01 bye", "0x bye", " 0 bye", "0\tbye", "0bye", "a bye", "hello home", "bye", "-", "99999999999999999999 bye", "10000000000 bye", "9999999999 bye",
		"0  bye", "0 bye ", "0 Bye", "0 BYE", "0 byes", "0 bye bye", "0 bye\n", "0 by", "0 drop ", "0 drop 1", "0 begin x", "0 keep ", "0 back a", "0 reset ", "0 reset 0", "0 - ", "0 --", "0 -1", "0  -", "0 cut",
		"0 hello", "0 hello ", "0 hello  home", "0 hello home ", "0 hello home\n", "0 hello 9", "0 hello MATCH", "0 hello abcdefghi", "0 hello a b", "0 hellohome", "0 Hello home",
		"0 pull", "0 pull ", "0 pull 0", "0 pull 61", "0 pull 01", "0 pull 00", "0 pull 007", "0 pull +1", "0 pull -1", "0 pull 1 ", "0 pull  1", "0 pull 1x", "0 pull x", "0 pull 1 1", "0 pull 1.0", "0 pull 9999999999", "0 pull 1000000000", "0 pull 99999999999999999999", "0 pull 18446744073709551617", "0 pull5",
		"0 runs", "0 Run", "0  run", "0 run " + strings.Repeat("x", impl.QueryMax+1), "what", "0 1", "0 ok", "0 5 0 0 ",
	}
	for _, line := range other {
		checkSession(t, [][2]string{{line, "what\n"}, {"0 hello home", "ok\n"}, {line, "what\n"}, {"0 run RETURN 1 AS x", "more x\n"}, {line, "what\n"}, {"0 pull 1", "row [1]\nok\n"}})
	}
}

// What each line may be, at its edges.
func TestSessionOfLinesAtTheirEdges(t *testing.T) {
	begin := [2]string{"0 hello home", "ok\n"}
	long := "RETURN 1 AS x" + strings.Repeat(" ", impl.QueryMax-13)
	checkSession(t, [][2]string{begin, {"0 run " + long, "more x\n"}, {"0 pull 60", "row [1]\nok\n"}, {"0 run   RETURN 1 AS x\n", "more x\n"}, {"0 drop", "ok\n"}, {"0 run RETURN\t1\nAS x", "more x\n"}, {"0 reset", "ok\n"}})
	checkSession(t, [][2]string{begin, {"0 run", "fail 8\n"}, {"0 reset", "ok\n"}, {"0 run ", "fail 8\n"}, {"0 reset", "ok\n"}, {"0 run  ", "fail 8\n"}, {"0 run -", "past\n"}, {"0 pull 60", "past\n"}, {"0 bye", ""}, {"0 run", ""}, {"0 what", "what\n"}})
	checkSession(t, [][2]string{{"0 hello none", "fail 3\n"}, {"0 hello home", ""}, {"0 -", ""}, begin, {"0 hello home", "fail 8\n"}, {"0 -", ""}, {"0 -", ""}, {"0 drop", "fail 8\n"}, {"0 -", ""}, {"0 bye", ""}, {"1 bye", ""}, {"1 hello home", ""}})
	checkSession(t, [][2]string{begin, {"1 hello home", "ok\n"}, {"0 begin", "ok\n"}, {"0 begin", "fail 8\n"}, {"0 reset", "ok\n"}, {"0 begin", "ok\n"}, {"0 run CREATE (a)", "ok\n"}, {"0 keep", "ok\n"}, {"0 back", "fail 8\n"}, {"1 run MATCH (a) RETURN count(*) AS c", "more c\n"}, {"1 pull 1", "row [1]\nok\n"}, {"1 begin", "ok\n"}, {"1 run CREATE (a)", "ok\n"}, {"1 back", "ok\n"}, {"1 keep", "fail 8\n"}})
	checkSession(t, [][2]string{begin, {"0 begin", "ok\n"}, {"0 run CREATE (a:P {name: 'x'})", "ok\n"}, {"0 -", ""}, begin, {"0 run MATCH (a) RETURN count(*) AS c", "more c\n"}, {"0 pull 1", "row [0]\nok\n"}})
	checkSession(t, [][2]string{begin, {"0 run UNWIND [1, 2, 3] AS x RETURN x AS x", "more x\n"}, {"0 pull 1", "row [1]\nmore\n"}, {"0 pull 1", "row [2]\nmore\n"}, {"0 pull 1", "row [3]\nok\n"}, {"0 pull 1", "fail 8\n"}})
}

// The rule of a session is that of label P and name name, and no other one.
func TestSessionHasItsRule(t *testing.T) {
	checkSession(t, [][2]string{{"0 hello home", "ok\n"}, {"0 run CREATE (:P {name: 1}), (:Q {name: 1}) CREATE (:P {n: 1})", "ok\n"}, {"0 run CREATE (:Q {name: 1}), (:P {n: 1}) CREATE (:P)", "ok\n"}, {"0 run CREATE (:P {name: 1})", "fail 7\n"}, {"0 reset", "ok\n"}, {"0 run CREATE (:P {name: 2})", "ok\n"}})
}

// As many lines as may be are done; those behind them are not.
func TestPromise74LimitOfLines(t *testing.T) {
	lines := []string{"0 hello home"}
	for len(lines) < 40 {
		lines = append(lines, "0 run RETURN 1 AS x", "0 drop", "x")
	}
	want := impl.Session(lines[:40])
	if got := strings.Count(want, "\n"); got != 40 || !strings.HasPrefix(want, "ok\nmore x\nok\nwhat\n") {
		t.Errorf("%d of 40 lines: %q", got, want)
	}
	for _, more := range [][]string{{"0 drop"}, {"x"}, {"0 bye"}, slices.Repeat([]string{"0 drop"}, 100)} {
		if got := impl.Session(append(lines[:40:40], more...)); got != want {
			t.Errorf("%d more: %q", len(more), got)
		}
	}
}

// someLines is lines of a session, mostly those that do something.
func someLines(d *dice, count int) []string {
	some := []string{"run MATCH (a:P) RETURN a.name AS name, a AS a", "run CREATE (:P {name: 'x'})", "run CREATE (a:P {name: 'y'}) RETURN a AS a", "run MATCH (a) DETACH DELETE a", "run UNWIND [1, 2, 3] AS x RETURN x AS x", "run MATCH (a:P) SET a.name = 'z'", "run", "pull 1", "pull 2", "drop", "begin", "keep", "back", "reset", "reset", "reset", "-", "bye", "what", "hello home", "hello none"}
	lines := []string{"0 hello home", "1 hello home"}
	for len(lines) < count {
		lines = append(lines, fmt.Sprint(d.roll(2), " ", some[d.roll(len(some))]))
	}
	return lines[:count]
}

// Promise 74: what was told of the first lines is told first; and a session is a server that hears a frame a line.
func TestPromise74FirstLinesFirst(t *testing.T) {
	d := dice(53)
	for range 60 {
		lines, s, want := someLines(&d, 45), newServer(t, 2, "home"), ""
		for i, line := range lines {
			if got := impl.Session(lines[:i]); got != want {
				t.Fatalf("%q: %q, not %q", lines[:i], got, want)
			}
			if i < 40 {
				told := ""
				s, told = hearLine(t, s, line)
				want += told
			}
		}
		if all := impl.Session(lines); all != want {
			t.Fatalf("%q: %q, not %q", lines, all, want)
		}
	}
}

// hearLine does a line of a session by a server.
func hearLine(t *testing.T, s impl.Server, line string) (impl.Server, string) {
	t.Helper()
	e := impl.Event{Link: int(line[0] - '0')}
	var m impl.Msg
	switch word, rest, _ := strings.Cut(line[2:], " "); word {
	case "-":
		e.Cut = true
	case "what":
		return s, "what\n"
	case "hello":
		m = msgHello(rest)
	case "run":
		m = msgRun(rest)
	case "pull":
		m = msgPull(int(rest[0] - '0'))
	default:
		m = msgOf(map[string]int{"drop": 4, "begin": 5, "keep": 6, "back": 7, "reset": 8, "bye": 9}[word])
	}
	if !e.Cut {
		e.Text = frameOf(m)
	}
	s, told := impl.ServerDo(s, e)
	if told == "" {
		return s, ""
	}
	return s, strings.ReplaceAll(unframed(t, told), ";", "\n") + "\n"
}

// Every goroutine has ended when a call answers.
func TestGoroutinesHaveEnded(t *testing.T) {
	var lines []string
	for _, line := range exampleLines() {
		lines = append(lines, line[0])
	}
	s := busyServer(t)
	before := runtime.NumGoroutine()
	for range 100 {
		impl.Session(lines)
		impl.ServerDo(s, impl.Event{Link: 1, Text: "x"})
		impl.ServerDo(s, impl.Event{Link: 7})
		impl.ServerDo(impl.Server{}, impl.Event{})
		impl.ServerPlay([]string{"a"}, nil, 3, []impl.Event{{Text: frameOf(msgHello("a"))}, {Link: 2, Cut: true}, {Link: 1, Text: "x"}})
	}
	for range 200 {
		if runtime.NumGoroutine() <= before {
			return
		}
		time.Sleep(10 * time.Millisecond)
	}
	t.Errorf("%d goroutines, of %d ahead", runtime.NumGoroutine(), before)
}

// What is answered hangs on nothing but what was given: not on how many do so at once, nor on how many may run.
func TestAnswersHangOnWhatWasGiven(t *testing.T) {
	d := dice(3)
	lines, want := someLines(&d, 40), ""
	server, event := busyServer(t), impl.Event{Link: 0, Text: framesOf(msgPull(1), msgOf(impl.MsgReset), msgRun("MATCH (a) RETURN a AS a"), msgPull(9))}
	wantServer, wantTold := impl.ServerDo(server, event)
	want = impl.Session(lines)
	ahead := runtime.GOMAXPROCS(0)
	defer runtime.GOMAXPROCS(ahead)
	for _, most := range []int{1, 2, ahead} {
		runtime.GOMAXPROCS(most)
		var all sync.WaitGroup
		for range 8 {
			all.Go(func() {
				for range 5 {
					if got := impl.Session(lines); got != want {
						t.Errorf("%q, not %q", got, want)
					}
					if got, told := impl.ServerDo(server, event); told != wantTold || !same(got, wantServer) {
						t.Errorf("%q, not %q", told, wantTold)
					}
				}
			})
		}
		all.Wait()
	}
}
