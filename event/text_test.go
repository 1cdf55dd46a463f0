package event_test

import (
	"fmt"
	"regexp"
	"slices"
	"strconv"
	"strings"
	"testing"

	"cohesion/api"
	"cohesion/event"
)

// lineOf is the line of a valid event by its definition, without the package under test.
func lineOf(e api.Event) string {
	switch e.Kind {
	case api.EvSet:
		return fmt.Sprintf("set %d %d %d %d %d %s\n", e.Time, e.U, e.V, e.Weight, e.Label, map[int]string{1: "+", -1: "-"}[e.Sign])
	case api.EvCut:
		return fmt.Sprintf("cut %d %d %d\n", e.Time, e.U, e.V)
	}
	return fmt.Sprintf("leave %d %d\n", e.Time, e.U)
}

func textOf(l []api.Event) string {
	var text strings.Builder
	for _, e := range l {
		text.WriteString(lineOf(e))
	}
	return text.String()
}

func checkPrint(t *testing.T, l []api.Event, want string, wantedError api.Errno) {
	t.Helper()
	if got, e := event.Print(l); got != want || e != wantedError {
		t.Errorf("Print of %d events, %+v, = %.200q, %d, want %.200q, %d", len(l), l[:min(len(l), 9)], got, e, want, wantedError)
	}
}

func checkParse(t *testing.T, s string, want []api.Event, wantedLine int, wantedError api.Errno) {
	t.Helper()
	if got, line, e := event.Parse(s); !slices.Equal(got, want) || line != wantedLine || e != wantedError {
		t.Errorf("Parse(%.200q) of %d bytes = %+v, %d, %d, want %+v, %d, %d", s, len(s), got[:min(len(got), 9)], line, e, want[:min(len(want), 9)], wantedLine, wantedError)
	}
}

func TestP4_3PrintAndParseOfExamples(t *testing.T) {
	for _, c := range []struct {
		e    api.Event
		want string
	}{
		{set(5, 0, 3, 10, 2, -1), "set 5 0 3 10 2 -\n"}, {set(0, 63, 62, 1000, 15, 1), "set 0 63 62 1000 15 +\n"}, {set(1<<20, 10, 9, 1, 0, 1), "set 1048576 10 9 1 0 +\n"},
		{cut(70000, 63, 1), "cut 70000 63 1\n"}, {cut(0, 0, 10), "cut 0 0 10\n"}, {leave(1<<20, 7), "leave 1048576 7\n"}, {leave(0, 0), "leave 0 0\n"},
	} {
		checkPrint(t, []api.Event{c.e}, c.want, api.OK)
		checkParse(t, c.want, []api.Event{c.e}, 0, api.OK)
	}
	checkPrint(t, nil, "", api.OK)
	checkParse(t, "", nil, 0, api.OK)
}

func TestP4_3PrintAndParseOfAllValidFields(t *testing.T) {
	all := validEvents()
	for _, e := range all {
		checkPrint(t, []api.Event{e}, lineOf(e), api.OK)
		checkParse(t, lineOf(e), []api.Event{e}, 0, api.OK)
	}
	checkPrint(t, all, textOf(all), api.OK)
	checkParse(t, textOf(all), all, 0, api.OK)
}

func TestP4_3PrintReturnsTheErrorsOfEncode(t *testing.T) {
	for _, c := range invalidLists() {
		checkPrint(t, c.l, "", c.want)
	}
	eachChecked(func(c checked) {
		if c.want != api.OK {
			checkPrint(t, []api.Event{cut(0, 0, 1), c.e}, "", c.want)
		}
	})
	most := slices.Repeat(few(), api.MaxEvents)[:65536]
	checkPrint(t, most, textOf(most), api.OK)
	checkPrint(t, slices.Concat(most, most[:1]), "", api.ErrLimit)
	checkPrint(t, append([]api.Event{{}}, most...), "", api.ErrLimit)
	checkPrint(t, append(slices.Clone(most[1:]), leave(-1, 0)), "", api.ErrTime)
}

// The errors of Print are those of Encode: the limit of a text is not among them, though Parse would refuse the text.
func TestP4_3PrintHasNoLimitOfItsOwn(t *testing.T) {
	longest := slices.Repeat([]api.Event{set(1<<20, 63, 62, 1000, 15, 1)}, api.MaxEvents)
	text := strings.Repeat("set 1048576 63 62 1000 15 +\n", 65536)
	checkPrint(t, longest, text, api.OK)
	checkParse(t, text, nil, 0, api.ErrLimit)
}

func TestP4_3SpacesLinesWithoutWordsAndLineEnds(t *testing.T) {
	want := []api.Event{set(5, 0, 3, 10, 2, -1), cut(7, 1, 2), leave(8, 4)}
	for _, s := range []string{
		"set 5 0 3 10 2 -\ncut 7 1 2\nleave 8 4\n", "set 5 0 3 10 2 -\ncut 7 1 2\nleave 8 4", "\nset 5 0 3 10 2 -\n\n\ncut 7 1 2\n\nleave 8 4\n\n",
		" set 5 0 3 10 2 -\n   cut 7 1 2\n     leave 8 4\n", "set 5 0 3 10 2 - \ncut 7 1 2   \nleave 8 4     \n", "set  5   0 3    10  2     -\ncut   7  1  2\nleave  8    4\n",
		"   \n  set  5 0 3  10 2   -  \n \n   cut  7 1   2  \n      \n leave 8   4   ", "   set 5 0 3 10 2 -\n\n\ncut 7 1 2\nleave 8 4\n ", "set 5 0 3 10 2 -\ncut 7 1 2\nleave 8 4 \n \n  \n   ",
		"set 005 0 03 0000010 2 -\ncut 0000007 01 2\nleave 08 000004",
	} {
		checkParse(t, s, want, 0, api.OK)
	}
	for _, s := range []string{"", " ", "     ", "\n", "\n\n\n", " \n   \n\n ", "   \n"} {
		checkParse(t, s, nil, 0, api.OK)
	}
}

func TestP4_3NumbersAreOneToSevenDigits(t *testing.T) {
	for _, c := range []struct {
		word  string
		value int // -1 if the word is no number
	}{
		{"0", 0}, {"00", 0}, {"0000000", 0}, {"7", 7}, {"07", 7}, {"0000007", 7}, {"63", 63}, {"0000063", 63}, {"64", 64}, {"9999999", 9999999}, {"1048576", 1048576}, {"1048577", 1048577}, {"0123456", 123456},
		{"00000000", -1}, {"00000007", -1}, {"10000000", -1}, {"99999999", -1}, {"18446744073709551617", -1}, {strings.Repeat("0", 100), -1},
		{"x", -1}, {"+", -1}, {"-", -1}, {"+7", -1}, {"-7", -1}, {"-0", -1}, {"7x", -1}, {"x7", -1}, {"1e1", -1}, {"0x7", -1}, {"1_0", -1}, {"1.0", -1}, {"7,", -1}, {"/", -1}, {":", -1}, {"1:", -1}, {"/1", -1}, {"٣", -1}, {"7\x00", -1}, {"\xff", -1},
	} {
		for field, base := range []string{"set %s 1 2 3 4 +", "set 1 %s 2 3 4 +", "set 1 2 %s 3 4 +", "set 1 2 3 %s 4 +", "set 1 2 3 4 %s -", "cut %s 1 2", "cut 1 %s 2", "cut 1 2 %s", "leave %s 1", "leave 1 %s"} {
			s := strings.Replace(base, "%s", c.word, 1)
			want := []api.Event{
				set(c.value, 1, 2, 3, 4, 1), set(1, c.value, 2, 3, 4, 1), set(1, 2, c.value, 3, 4, 1), set(1, 2, 3, c.value, 4, 1), set(1, 2, 3, 4, c.value, -1),
				cut(c.value, 1, 2), cut(1, c.value, 2), cut(1, 2, c.value), leave(c.value, 1), leave(1, c.value),
			}[field]
			e := event.Check(want)
			switch {
			case c.value == -1:
				checkParse(t, s, nil, 1, api.ErrText)
			case e != api.OK:
				checkParse(t, s, nil, 1, e)
			default:
				checkParse(t, s, []api.Event{want}, 0, api.OK)
			}
		}
	}
}

func TestP4_3TheFirstWrongLineDecides(t *testing.T) {
	wrong := []struct {
		line string
		e    api.Errno
	}{
		{"hop 1 2", api.ErrText}, {"set", api.ErrText}, {"cut 1 2", api.ErrText}, {"leave 1 2 3", api.ErrText}, {" x ", api.ErrText}, {"\t", api.ErrText}, {"cut 1 2 3\r", api.ErrText},
		{"cut 1048577 3 3", api.ErrTime}, {"leave 9999999 1", api.ErrTime}, {"cut 1 3 3", api.ErrNode}, {"leave 5 64", api.ErrNode}, {"set 5 3 3 0 16 +", api.ErrNode}, {"set 5 3 2 0 16 +", api.ErrRange}, {"set 5 3 2 1 16 +", api.ErrRange},
	}
	for _, x := range wrong {
		checkParse(t, x.line, nil, 1, x.e)
		checkParse(t, "cut 1 2 3\n"+x.line, nil, 2, x.e)
		checkParse(t, "\n \n"+x.line+"\ncut 1 2 3\n", nil, 3, x.e)
		checkParse(t, "cut 1 2 3\n\n\nleave 1 2\n  \n"+x.line+"\n\n", nil, 6, x.e)
		checkParse(t, strings.Repeat("\n", 1000)+x.line, nil, 1001, x.e)
		for _, y := range wrong {
			checkParse(t, x.line+"\n"+y.line, nil, 1, x.e)
			checkParse(t, "cut 1 2 3\n"+x.line+"\n\n"+y.line+"\n", nil, 2, x.e)
		}
	}
}

// form is what a line with words looks like.
var form = regexp.MustCompile(`^ *(set( +[0-9]{1,7}){5} +[+-]|cut( +[0-9]{1,7}){3}|leave( +[0-9]{1,7}){2}) *$`)

// parsed is Parse by its definition, but for its limits.
func parsed(s string) ([]api.Event, int, api.Errno) {
	var l []api.Event
	for i, line := range strings.Split(s, "\n") {
		if strings.Trim(line, " ") == "" {
			continue
		}
		if !form.MatchString(line) {
			return nil, i + 1, api.ErrText
		}
		words := strings.Fields(line)
		e := api.Event{Kind: map[string]int{"set": api.EvSet, "cut": api.EvCut, "leave": api.EvLeave}[words[0]]}
		for at, field := range []*int{&e.Time, &e.U, &e.V, &e.Weight, &e.Label} {
			if at+1 < len(words) {
				*field, _ = strconv.Atoi(words[at+1])
			}
		}
		if e.Kind == api.EvSet {
			e.Sign = map[string]int{"+": 1, "-": -1}[words[6]]
		}
		if err := event.Check(e); err != api.OK {
			return nil, i + 1, err
		}
		l = append(l, e)
	}
	return l, 0, api.OK
}

func checkParsed(t *testing.T, s string) {
	t.Helper()
	want, line, e := parsed(s)
	checkParse(t, s, want, line, e)
}

func TestP4_3ParseWhereOneByteIsAnother(t *testing.T) {
	text := []byte("\nset 5 0 3 10 2 -\n  cut  70 63 1 \n\nleave 1048576 7\nset 0 2 1 1000 15 +")
	for at := range len(text) + 1 {
		before, behind := text[:at], text[at:]
		checkParsed(t, string(before))
		checkParsed(t, string(behind))
		for by := range 256 {
			checkParsed(t, string(slices.Concat(before, []byte{byte(by)}, behind)))
			if len(behind) > 0 {
				checkParsed(t, string(slices.Concat(before, []byte{byte(by)}, behind[1:])))
			}
		}
	}
	for from := range text {
		for to := from; to <= len(text); to++ {
			checkParsed(t, string(slices.Concat(text[:from], text[to:])))
		}
	}
}

func TestP4_3ParseOfWordsThatAreOthers(t *testing.T) {
	words := []string{"", "set", "cut", "leave", "Set", "se", "sets", "0", "1", "2", "64", "+", "-", "+-", "00000001", "set\n", "\n", "\t", "\r", "\v", "\f", "\u00a0", "\u2028", "\x00", "1\x002"}
	for _, line := range []string{"set 5 0 3 10 2 -", "cut 7 1 2", "leave 8 4"} {
		have := strings.Split(line, " ")
		for at := range len(have) + 1 {
			for _, word := range words {
				checkParsed(t, strings.Join(slices.Insert(slices.Clone(have), at, word), " "))
				for to := at; to <= min(at+3, len(have)); to++ {
					checkParsed(t, strings.Join(slices.Replace(slices.Clone(have), at, to, word), " "))
					checkParsed(t, strings.Join(slices.Replace(slices.Clone(have), at, to, word, word), " "))
				}
			}
		}
	}
	for _, first := range words {
		for count := range 9 {
			for _, last := range words {
				checkParsed(t, first+strings.Repeat(" 1 2", count/2)+strings.Repeat(" 3", count%2)+" "+last)
			}
		}
	}
}

func TestP4_3ParseOfLongTexts(t *testing.T) {
	fill := func(s string, with byte) string { return s + strings.Repeat(string(with), 1<<20-len(s)) }
	one := []api.Event{cut(1, 2, 3)}
	checkParse(t, fill("cut 1 2 3", ' '), one, 0, api.OK)
	checkParse(t, fill("cut 1 2 3", '\n'), one, 0, api.OK)
	checkParse(t, strings.Repeat(" ", 1<<20-9)+"cut 1 2 3", one, 0, api.OK)
	checkParse(t, fill("cut 1 2 3\n", 'x'), nil, 2, api.ErrText)
	checkParse(t, fill("cut 1 2 ", '3'), nil, 1, api.ErrText)
	for _, s := range []string{fill("cut 1 2 3", ' ') + " ", fill("cut 1 2 3", '\n') + "\n", fill("x", 'x') + "x", fill("", ' ') + "x", fill("", '\n') + "\n", strings.Repeat("x\n", 1<<20)} {
		checkParse(t, s, nil, 0, api.ErrLimit)
	}
	checkParse(t, strings.Repeat("\n", 1<<20-1)+"x", nil, 1<<20, api.ErrText)
}

func TestP4_3ParseOfManyLines(t *testing.T) {
	most := strings.Repeat("cut 1 2 3\n", 65536)
	events := slices.Repeat([]api.Event{cut(1, 2, 3)}, 65536)
	checkParse(t, most, events, 0, api.OK)
	checkParse(t, "\n  \n"+most+"\n\n   \n"+strings.Repeat("\n", 65537), events, 0, api.OK)
	checkParse(t, strings.Repeat("x\n", 65536), nil, 1, api.ErrText)
	checkParse(t, most[10:]+"\n\ncut 1 2 2", nil, 65538, api.ErrNode)
	for _, s := range []string{most + "leave 1 2", "leave 1 2\n" + most, most + "x\n", "x\n" + most, most + "\n\n  x", "\t\n" + most, most + most[:1000], strings.Repeat("x\n", 65537), strings.Repeat(" x\n\n", 65537)} {
		checkParse(t, s, nil, 0, api.ErrLimit)
	}
}
