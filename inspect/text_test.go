package inspect_test

import (
	"fmt"
	"slices"
	"strings"
	"testing"

	"reelfeeder/api"
	"reelfeeder/inspect"
)

func TestText(t *testing.T) {
	var verdicts []api.Look
	for i := range 5 {
		verdicts = append(verdicts, api.Look{At: i, Board: "b", Name: fmt.Sprint("c", i), Verdict: 1 + i, Bad: i%2 == 1, Machine: "m", Nozzle: "n", Reel: "r"})
	}
	for _, c := range []struct {
		l    []api.Look
		want string
	}{
		{nil, ""},
		{looks("1 b c good"), "1 b c good fine m n r\n"},
		{looks("1 b c escape x y z"), "1 b c good bad x y z\n"},
		{verdicts, "0 b c0 good fine m n r\n1 b c1 missing bad m n r\n2 b c2 shifted fine m n r\n3 b c3 turned bad m n r\n4 b c4 soldered fine m n r\n"},
		{looks("1 good bad good good bad fine"), "1 good bad good fine good bad fine\n"},
		{looks(fmt.Sprint(api.End-1, " b c defect m n ", long)), fmt.Sprint(api.End-1, " b c missing bad m n ", long, "\n")},
	} {
		is(t, c.want, two(inspect.Text(c.l)), list{c.want, api.OK})
		is(t, c.want, three(inspect.Read(c.want)), list{c.l, 0, api.OK})
	}
	text, e := inspect.Text(many(api.MaxLooks))
	is(t, "the most", e, api.OK)
	is(t, "the most", three(inspect.Read(text)), list{many(api.MaxLooks), 0, api.OK})
}

// TestLongText holds that a text has at most MaxText bytes.
func TestLongText(t *testing.T) {
	var l []api.Look
	for i := range 1000 { // lines of 200 bytes
		board := fmt.Sprintf("b%039d", i)
		l = append(l, api.Look{At: 1000 + i, Board: board, Name: long, Verdict: api.VerdictGood, Machine: long, Nozzle: long, Reel: strings.Repeat("r", 20)})
	}
	text, e := inspect.Text(l)
	is(t, "just short enough", list{len(text), e}, list{api.MaxText, api.OK})
	read, line, e := inspect.Read(text)
	is(t, "read", list{slices.Equal(read, l), line, e}, list{true, 0, api.OK})
	longer := changed(l, 999, func(k *api.Look) { k.Reel += "r" })
	is(t, "one byte more", two(inspect.Text(longer)), list{"", api.ErrLarge})
	longer[999].Reel = "R"
	is(t, "the looks first", two(inspect.Text(longer)), list{"", api.ErrName})
}

// TestReadSyntax holds which texts do not have the form.
func TestReadSyntax(t *testing.T) {
	const good = "1 b c good fine m n r\n"
	for _, text := range []string{
		"\n", " \n", "1 b c good fine m n r", good[1:], "b c good fine m n r\n",
		" " + good, "1 b c good fine m n r \n", "1  b c good fine m n r\n", "1\tb c good fine m n r\n", "1 b c good fine m n\n", "1 b c good fine m n r s\n",
		"1 b c good fine\n", "1\n", "1 b c good fine m n  r\n", "1 b c good fine m n \n",
		"x b c good fine m n r\n", "01 b c good fine m n r\n", "-0 b c good fine m n r\n", "+1 b c good fine m n r\n", "1.0 b c good fine m n r\n", "- b c good fine m n r\n",
		"1000000000000000 b c good fine m n r\n", "-1000000000000000 b c good fine m n r\n",
		"1 b c Good fine m n r\n", "1 b c goods fine m n r\n", "1 b c goo fine m n r\n", "1 b c 1 fine m n r\n", "1 b c bad fine m n r\n", "1 b c fine good m n r\n",
		"1 b c good good m n r\n", "1 b c good Bad m n r\n", "1 b c good bad\r m n r\n", "1 b c good 0 m n r\n", "1 b c good true m n r\n", "1 b c good\n fine m n r\n", "b 1 c good fine m n r\n",
	} {
		is(t, fmt.Sprintf("%q", text), three(inspect.Read(text)), list{looks(""), 0, api.ErrSyntax})
		is(t, fmt.Sprintf("%q", text), three(inspect.Read(good+"2 b d good bad m n r\n"+text)), list{looks(""), 2, api.ErrSyntax})
		if strings.Count(text, "\n") == 1 && text[len(text)-1] == '\n' { // the first line that has not the form
			is(t, fmt.Sprintf("%q", text), three(inspect.Read(good+text+good+"x\n"+text)), list{looks(""), 1, api.ErrSyntax})
		}
	}
}

// TestReadErrors holds the errors of Read, and their order.
func TestReadErrors(t *testing.T) {
	const line = "1 b c good fine m n r\n"
	for _, c := range []struct {
		text string
		line int
		want api.Errno
	}{
		{"-1 b c good fine m n r\n", 0, api.ErrArg},
		{fmt.Sprint(api.End, " b c good fine m n r\n"), 0, api.ErrArg},
		{"999999999999999 b c good fine m n r\n", 0, api.ErrArg},
		{"-999999999999999 b c good fine m n r\n", 0, api.ErrArg},
		{"1 B c good fine m n r\n", 0, api.ErrName},
		{line + "2 b - good fine m n r\n", 0, api.ErrName},
		{"1 b c good fine 7 n r\n", 0, api.ErrName},
		{"1 b c good fine m \xff r\n", 0, api.ErrName},
		{"1 b c good fine m n r\r\n", 0, api.ErrName},
		{"1 b c good fine m n \tr\n", 0, api.ErrName},
		{"1 b c good fine m n " + long + "k\n", 0, api.ErrName},
		{"2 b d good fine m n r\n" + line, 0, api.ErrOrder},
		{line + line, 0, api.ErrOrder},
		{line + "2 b c good fine m n r\n", 0, api.ErrTwice},
		{"1 B c good fine m n r\n1\n", 1, api.ErrSyntax}, // before names
		{line + line + "1", 2, api.ErrSyntax},
		{strings.Repeat(line, api.MaxLooks+1), 0, api.ErrLarge},
		{strings.Repeat(line, api.MaxLooks+1) + "\n", api.MaxLooks + 1, api.ErrSyntax}, // before too many looks
		{strings.Repeat(line, api.MaxLooks), 0, api.ErrOrder},
		{strings.Repeat("x", api.MaxText), 0, api.ErrSyntax},
		{strings.Repeat(" ", api.MaxText), 0, api.ErrSyntax},
		{strings.Repeat("\n", api.MaxText), 0, api.ErrSyntax},
		{strings.Repeat("x", api.MaxText+1), 0, api.ErrLarge},
		{strings.Repeat(line, api.MaxText/len(line)+1), 0, api.ErrLarge},
	} {
		is(t, fmt.Sprintf("%.60q", c.text), three(inspect.Read(c.text)), list{looks(""), c.line, c.want})
	}
}
