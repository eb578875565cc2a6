package tests

import (
	"fmt"
	"strconv"
	"strings"
	"testing"

	"loop.example/ashlar/impl"
)

// How something that is said is written, by the words of the document.
func TestPromise63WrittenAsTold(t *testing.T) {
	for want, m := range map[string]impl.Msg{
		"1 0 4 home":            msgHello("home"),
		"2 0 0 ":                msgRun(""),
		"2 0 13 RETURN 1 AS x":  msgRun("RETURN 1 AS x"),
		"2 0 4 a\nb=\nb=1":      msgRun("a\nb=", cell("b", num(1))),
		"3 60 0 ":               msgPull(60),
		"3 1 0 ":                msgPull(1),
		"4 0 0 ":                msgOf(impl.MsgDrop),
		"5 0 0 ":                msgOf(impl.MsgBegin),
		"6 0 0 ":                msgOf(impl.MsgKeep),
		"7 0 0 ":                msgOf(impl.MsgBack),
		"8 0 0 ":                msgOf(impl.MsgReset),
		"9 0 0 ":                msgOf(impl.MsgBye),
		"2 0 0 \nz=null\na='='": msgRun("", cell("z", null()), cell("a", text("="))),
		"2 0 2 \n\n\nx=[1, ['a=b', true], #3, @4]": msgRun("\n\n", cell("x", list(num(1), list(text("a=b"), yes()), nodeRef(3), edgeRef(4)))),
	} {
		if got := impl.MsgPut(m); got != want {
			t.Errorf("%q, not %q", got, want)
		}
		if got, ok := impl.MsgGet(want); !ok || !same(got, m) {
			t.Errorf("%q: %+v", want, got)
		}
	}
}

// Promise 63: what is said is read back from its text; what is not ok has no text.
func TestPromise63ReadBack(t *testing.T) {
	texts := map[string]int{}
	for i, m := range okMsgs() {
		s := impl.MsgPut(m)
		if got, ok := impl.MsgGet(s); !ok || !same(got, m) {
			t.Errorf("%d: %.300q: %v", i, s, ok)
		}
		if texts[s]++; texts[s] > 1 {
			t.Errorf("%.300q is the text of two", s)
		}
	}
	for i, m := range wrongMsgs() {
		if s := impl.MsgPut(m); s != "" {
			t.Errorf("%d: %.300q", i, s)
		}
	}
}

// wantNoMsg asks that a text is read as nothing.
func wantNoMsg(t *testing.T, s string) {
	t.Helper()
	if m, ok := impl.MsgGet(s); ok || !same(m, impl.Msg{}) {
		t.Errorf("%.200q: %+v", s, m)
	}
}

func TestPromise63NothingElseIsRead(t *testing.T) {
	for _, s := range []string{
		"", " ", "1", "1 ", "1 0", "1 0 ", "1 0 4", "1 0 4 ", "1 0 4 hom", "1 0 4 homes", "1 0 4  home", "1 0 4 home\n", "1 0 4 home ", "1 0 0 ", "1 0 1 9", "1 1 4 home", "1 0 4 home\nx=1", "1 0 04 home", "01 0 4 home", "1 00 4 home", "+1 0 4 home", "1 -0 4 home", "1\t0 4 home", "1  0 4 home", "0 0 0 ", "10 0 0 ", "-1 0 0 ", "1 0 -4 home", "1 0 99999999999999999999 home", "99999999999999999999 0 0 ", "1 0 1000000001 home",
		"2 0 0 x", "2 0 1 ", "2 1 0 ", "2 0 0 \n", "2 0 0 \nx", "2 0 0 \nx=", "2 0 0 \n=1", "2 0 0 \nx=1\n", "2 0 0 \n\nx=1", "2 0 0 x=1", "2 0 0 \nx=01", "2 0 0 \nx=1 ", "2 0 0 \n x=1", "2 0 0 \nx =1", "2 0 0 \nx= 1", "2 0 0 \nx=1\nx=2", "2 0 0 \nx=1,y=2", "2 0 0 \r\nx=1", "2 0 0 \nx:1", "2 0 0 \nx==1", "2 0 0 \nMATCH=1", "2 0 0 \n9=1", "2 0 0 \nx=1000000001", "2 0 0 \nx='a\nb'", "2 0 0 \nx=[[[[]]]]", "2 0 0 \nx='abcdefghijklmnopq'",
		"2 0 0 \na=1\nb=1\nc=1\nd=1\ne=1\nf=1",
		"3 0 0 ", "3 61 0 ", "3 -1 0 ", "3 1 0 \nx=1", "3 1 1 x", "3 01 0 ", "3 1 0", "3 1 ", "3 1 0  ",
		"4 0 0", "4 0 0  ", "4 0 1 x", "4 1 0 ", "9 0 0 \nx=1", "9 0 0 bye",
	} {
		wantNoMsg(t, s)
	}
	wantNoMsg(t, "2 0 1001 "+strings.Repeat("x", 1001))
	if _, ok := impl.MsgGet("2 0 1000 " + strings.Repeat("x", 1000)); !ok {
		t.Error("as long as it may be")
	}
	for i, m := range okMsgs() {
		if i%5 == 0 {
			eachSpoilt(impl.MsgPut(m), func(s string) {
				if got, ok := impl.MsgGet(s); (ok && impl.MsgPut(got) != s) || (!ok && !same(got, impl.Msg{})) {
					t.Errorf("%.200q: %v %+v", s, ok, got)
				}
			})
		}
	}
}

// eachSpoilt tells a text with one byte less, more, or another one, at each place up to the first hundred.
func eachSpoilt(s string, do func(spoilt string)) {
	for at := range min(len(s)+1, 100) {
		if at < len(s) {
			do(s[:at] + s[at+1:])
		}
		for _, c := range "0 1\n=x9'[],#:-" {
			do(s[:at] + string(c) + s[at:])
			if at < len(s) {
				do(s[:at] + string(c) + s[at+1:])
			}
		}
	}
}

// okReplies is replies that are fine, each limit met by one.
func okReplies() map[string]impl.Reply {
	deep, long := list(list(num(1))), text("abcdefghijklmnop")
	return map[string]impl.Reply{
		"ok":                                     {Kind: impl.ReplyOk},
		"more":                                   {Kind: impl.ReplyOk, More: true},
		"ok a":                                   {Kind: impl.ReplyOk, Names: []string{"a"}},
		"ok more past":                           {Kind: impl.ReplyOk, Names: []string{"more", "past"}},
		"ok a a":                                 {Kind: impl.ReplyOk, Names: []string{"a", "a"}},
		"more b a abcdefgh c d":                  {Kind: impl.ReplyOk, Names: []string{"b", "a", "abcdefgh", "c", "d"}, More: true},
		"row [null]":                             {Kind: impl.ReplyRow, Row: values(null())},
		"row [[]]":                               {Kind: impl.ReplyRow, Row: values(list())},
		"row [1, '], [', true, #0, @1000000000]": {Kind: impl.ReplyRow, Row: values(num(1), text("], ["), yes(), nodeRef(0), edgeRef(impl.NumMax))},
		"row [[[1]], [[1], 2, 3, 4, 5, 6], 'abcdefghijklmnop', -1000000000, [1, 2, 3, 4, 5, 6]]": {Kind: impl.ReplyRow, Row: values(list(list(num(1))), list(deep.List[0], num(2), num(3), num(4), num(5), num(6)), long, num(-impl.NumMax), list(num(1), num(2), num(3), num(4), num(5), num(6)))},
		"row [[['deep']]]": {Kind: impl.ReplyRow, Row: values(list(list(text("deep"))))},
		"row [[[[]]]]":     {Kind: impl.ReplyRow, Row: values(list(list(list())))},
		"fail 1":           {Kind: impl.ReplyFail, Code: 1},
		"fail 9":           {Kind: impl.ReplyFail, Code: impl.ErrClash},
		"past":             {Kind: impl.ReplyPast},
	}
}

// wrongReplies is replies that are not fine, for each reason that there is.
func wrongReplies() []impl.Reply {
	one := values(num(1))
	all := []impl.Reply{
		{}, {Kind: -1}, {Kind: 5}, {More: true}, {Code: 1},
		{Kind: impl.ReplyOk, Row: one}, {Kind: impl.ReplyOk, Code: 1}, {Kind: impl.ReplyOk, Names: strings.Fields("a b c d e f")},
		{Kind: impl.ReplyRow}, {Kind: impl.ReplyRow, Row: values(num(1), num(2), num(3), num(4), num(5), num(6))}, {Kind: impl.ReplyRow, Row: one, Names: []string{"a"}}, {Kind: impl.ReplyRow, Row: one, Code: 1}, {Kind: impl.ReplyRow, Row: one, More: true},
		{Kind: impl.ReplyFail}, {Kind: impl.ReplyFail, Code: -1}, {Kind: impl.ReplyFail, Code: impl.ErrClash + 1}, {Kind: impl.ReplyFail, Code: 1, Names: []string{"a"}}, {Kind: impl.ReplyFail, Code: 1, Row: one}, {Kind: impl.ReplyFail, Code: 1, More: true},
		{Kind: impl.ReplyPast, Code: 1}, {Kind: impl.ReplyPast, More: true}, {Kind: impl.ReplyPast, Names: []string{"a"}}, {Kind: impl.ReplyPast, Row: one},
	}
	for _, s := range noNames {
		all = append(all, impl.Reply{Kind: impl.ReplyOk, Names: []string{s}}, impl.Reply{Kind: impl.ReplyOk, Names: []string{"a", s}, More: true})
	}
	for _, v := range wrongValues() {
		all = append(all, impl.Reply{Kind: impl.ReplyRow, Row: values(v)}, impl.Reply{Kind: impl.ReplyRow, Row: values(num(1), v)})
	}
	return all
}

// Promise 64: a reply is read back from its text; what is not fine has no text.
func TestPromise64ReplyIsReadBack(t *testing.T) {
	for want, r := range okReplies() {
		if !impl.ReplyFine(r) || impl.ReplyPut(r) != want {
			t.Errorf("%q, not %q", impl.ReplyPut(r), want)
		}
		if got, ok := impl.ReplyGet(want); !ok || !same(got, r) {
			t.Errorf("%q: %+v", want, got)
		}
	}
	for i, r := range wrongReplies() {
		if impl.ReplyFine(r) || impl.ReplyPut(r) != "" {
			t.Errorf("%d: %+v", i, r.Kind)
		}
	}
	for code := 1; code <= impl.ErrClash; code++ {
		if s := impl.ReplyPut(impl.Reply{Kind: impl.ReplyFail, Code: code}); s != "fail "+strconv.Itoa(code) {
			t.Errorf("%q", s)
		}
	}
	for _, v := range ascendingValues() {
		r := impl.Reply{Kind: impl.ReplyRow, Row: values(v, v)}
		s := impl.ReplyPut(r)
		if got, ok := impl.ReplyGet(s); !ok || !same(got, r) || s != "row ["+impl.ValuePut(v)+", "+impl.ValuePut(v)+"]" {
			t.Errorf("%q: %+v", s, got)
		}
	}
}

func TestPromise64NothingElseIsRead(t *testing.T) {
	for _, s := range []string{
		"", " ", "ok ", " ok", "okay", "ok  a", "ok a ", "ok a  b", "OK", "ok 9", "ok a,b", "ok\na", "ok a\n", "ok MATCH", "ok abcdefghi", "ok a b c d e f", "more ", "more a b c d e f", "mores", "more\n",
		"row", "row ", "row []", "row 1", "row [1", "row 1]", "row [1]]", "row [1] ", "row  [1]", "row [1,2]", "row [1, ]", "row [1, 2, 3, 4, 5, 6]", "row [1, 2, 3, 4, 5, 6, 7]", "row [[[[1]]]]", "row [[[[[]]]]]", "row [01]", "row [1]\n", "row [ 1]", "row[1]", "row ['a]", "row (1)", "row [x]", "row [1000000001]",
		"fail", "fail ", "fail 0", "fail 10", "fail 01", "fail -1", "fail 1 ", "fail  1", "fail 1 2", "fail x", "fail 11", "fail 99999999999999999999", "past ", "pastry", "past 1", "what",
	} {
		if r, ok := impl.ReplyGet(s); ok || !same(r, impl.Reply{}) {
			t.Errorf("%q: %+v", s, r)
		}
	}
	for s := range okReplies() {
		eachSpoilt(s, func(s string) {
			if got, ok := impl.ReplyGet(s); (ok && impl.ReplyPut(got) != s) || (!ok && !same(got, impl.Reply{})) {
				t.Errorf("%q: %v %+v", s, ok, got)
			}
		})
	}
}

// someBodies is bodies of frames, from none to as much as may be.
func someBodies() []string {
	return []string{"", "a", "\n", "0:\n", "1:a\n", "two\nlines", everyByte(), strings.Repeat("7", 9), strings.Repeat("\n", 10), strings.Repeat(":", 99), strings.Repeat("ab", 50), strings.Repeat("5", 999), strings.Repeat("z", 1000), strings.Repeat("\x00", impl.BodyMax-1), strings.Repeat("6", impl.BodyMax)}
}

// Promise 65: a frame is read back, whatever stands behind it, and no beginning of it is.
func TestPromise65FrameIsReadBack(t *testing.T) {
	for _, body := range someBodies() {
		f := impl.FramePut(body)
		if f != fmt.Sprint(len(body), ":", body, "\n") {
			t.Fatalf("%.50q", f)
		}
		for _, behind := range []string{"", "x", "\n", f, "0", ":", "00", strings.Repeat("9", 7000)} {
			if got, size := impl.FrameGet(f + behind); got != body || size != len(f) {
				t.Errorf("%.50q: %.50q %d", f, got, size)
			}
		}
		for at := range f {
			if got, size := impl.FrameGet(f[:at]); got != "" || size != 0 {
				t.Errorf("%.50q, %d of it: %.50q %d", f, at, got, size)
			}
		}
		if got, size := impl.FrameGet(f[:len(f)-1] + "x"); got != "" || size != -1 {
			t.Errorf("%.50q, another end: %.50q %d", f, got, size)
		}
	}
	for _, size := range []int{impl.BodyMax + 1, impl.BodyMax + 77, 100000} {
		if f := impl.FramePut(strings.Repeat("x", size)); f != "" {
			t.Errorf("%d: %.50q", size, f)
		}
	}
}

// slowFrameGet is FrameGet a second way: a text is less than a frame, if something behind it makes it one.
func slowFrameGet(s string) (string, int) {
	number, rest, more := strings.Cut(s, ":")
	for _, c := range number {
		if c < '0' || c > '9' {
			return "", -1
		}
	}
	size, err := strconv.Atoi("0" + number)
	if err != nil || size > impl.BodyMax || (len(number) > 1 && number[0] == '0') || (more && number == "") {
		return "", -1
	}
	switch {
	case !more || len(rest) <= size:
		return "", 0
	case rest[size] != '\n':
		return "", -1
	}
	return rest[:size], len(number) + size + 2
}

// Promise 65: what no frame begins with is none, as soon as that is known.
func TestPromise65WhatIsNoFrame(t *testing.T) {
	check := func(s string) int {
		got, size := impl.FrameGet(s)
		want, wantSize := slowFrameGet(s)
		if got != want || size != wantSize {
			t.Fatalf("%.60q: %.60q %d, not %.60q %d", s, got, size, want, wantSize)
		}
		return size
	}
	for s, want := range map[string]int{"": 0, "0": 0, "1": 0, "12": 0, "599": 0, "999": 0, "1000": 0, "6000": 0, "6000:": 0, "0:": 0, "3:ab": 0, "3:abc": 0, "6001": -1, "6001:": -1, "7000": -1, "9999": -1, "10000": -1, "60000": -1, "00": -1, "01": -1, "000": -1, "00:": -1, "01:a\n": -1, ":": -1, "x": -1, " 1:a\n": -1, "+1:a\n": -1, "-1:": -1, "1 :a\n": -1, "1x": -1, "1;": -1, "1:ab": -1, "1:a\r\n": -1, "0:a": -1, "0\n": -1, "\n": -1, "\n0:\n": -1, "6001x": -1, "99999999999999999999": -1, "18446744073709551617:a\n": -1, strings.Repeat("1", 100000): -1, "6000:" + strings.Repeat("x", 6000): 0, "6000:" + strings.Repeat("x", 6001): -1} {
		if got := check(s); got != want {
			t.Errorf("%.50q: %d, not %d", s, got, want)
		}
	}
	signs := "0169:\nx"
	var each func(s string)
	each = func(s string) {
		check(s)
		if len(s) < 5 {
			for _, c := range signs {
				each(s + string(c))
			}
		}
	}
	each("")
	for n := range 12000 {
		check(strconv.Itoa(n))
		check(strconv.Itoa(n) + ":")
	}
}

// Promise 87: frames one behind the other are read one by one.
func TestPromise87FramesOneByOne(t *testing.T) {
	bodies := someBodies()
	for i := range bodies {
		all, want := "", append(bodies[i:len(bodies):len(bodies)], bodies[:i]...)
		for _, body := range want {
			all += impl.FramePut(body)
		}
		for _, body := range want {
			got, size := impl.FrameGet(all)
			if got != body || size < 3 || all[:size] != impl.FramePut(body) {
				t.Fatalf("%.50q: %.50q %d", all, got, size)
			}
			all = all[size:]
		}
		if all != "" {
			t.Errorf("%.50q is left", all)
		}
	}
}

// All that a talk tells, and all that may be said, has room in a frame.
func TestFramesHaveRoomForAll(t *testing.T) {
	most := fiveCells()[0].Value
	row := impl.Reply{Kind: impl.ReplyRow, Row: values(most, most, most, most, most)}
	said := msgRun(strings.Repeat("x", impl.QueryMax))
	for i := range impl.ItemMax {
		said.Given = append(said.Given, cell(fmt.Sprint("abcdefg", i), most))
	}
	for _, body := range []string{impl.ReplyPut(row), impl.MsgPut(said)} {
		if got, size := impl.FrameGet(impl.FramePut(body)); len(body) < 3000 || got != body || size == 0 {
			t.Errorf("%d bytes: %d", len(body), size)
		}
	}
}
