package rework_test

import (
	"fmt"
	"slices"
	"strings"
	"testing"

	"reelfeeder/api"
	"reelfeeder/rework"
)

func TestText(t *testing.T) {
	for _, c := range []struct {
		s    []api.Step
		want string
	}{
		{nil, ""},
		{steps("0 u reflow"), "0 u reflow\n"},
		{ofU("reflow, fail r1, pass, repair r1, scrap, ship"), "1 u reflow\n2 u fail r1\n3 u pass\n4 u repair r1\n5 u scrap\n6 u ship\n"},
		{steps("1 fail fail fail, 1 ship repair scrap, 1 reflow pass"), "1 fail fail fail\n1 ship repair scrap\n1 reflow pass\n"},
		{steps(fmt.Sprint(api.End-1, " ", long, " repair ", long)), fmt.Sprint(api.End-1, " ", long, " repair ", long, "\n")},
		{alike(api.MaxSteps, steps("7 u pass")[0]), strings.Repeat("7 u pass\n", api.MaxSteps)},
	} {
		is(t, c.want, two(rework.Text(c.s)), list{c.want, api.OK})
		is(t, c.want, three(rework.Read(c.want)), list{c.s, 0, api.OK})
	}
}

// TestTextErrors holds that Text returns the errors of CheckSteps.
func TestTextErrors(t *testing.T) {
	is(t, "too many", two(rework.Text(make([]api.Step, api.MaxSteps+1))), list{"", api.ErrLarge})
	is(t, "moment", two(rework.Text(steps("0 u pass, -1 u pass"))), list{"", api.ErrArg})
	is(t, "board", two(rework.Text(steps("0 u pass, 0 U pass"))), list{"", api.ErrName})
	is(t, "kind", two(rework.Text([]api.Step{{Board: "u"}})), list{"", api.ErrKind})
	is(t, "form", two(rework.Text(steps("0 u pass r1"))), list{"", api.ErrForm})
	is(t, "component", two(rework.Text(steps("0 u fail"))), list{"", api.ErrName})
	is(t, "order", two(rework.Text(steps("1 u pass, 0 u pass"))), list{"", api.ErrOrder})
}

// TestLongText holds that a text has at most MaxText bytes.
func TestLongText(t *testing.T) {
	s := alike(2000, api.Step{Kind: api.StepFail, Board: long, Component: long})                // lines of 89 bytes
	s = append(s, alike(1000, api.Step{Kind: api.StepShip, Board: strings.Repeat("b", 14)})...) // of 22 bytes
	text, e := rework.Text(s)
	is(t, "just short enough", list{len(text), e}, list{api.MaxText, api.OK})
	read, line, e := rework.Read(text)
	is(t, "read", list{slices.Equal(read, s), line, e}, list{true, 0, api.OK})
	s[len(s)-1].At = 10
	is(t, "one byte more", two(rework.Text(s)), list{"", api.ErrLarge})
	s[len(s)-1].Board = "B"
	is(t, "the steps first", two(rework.Text(s)), list{"", api.ErrName})
}

// TestReadSyntax holds which texts do not have the form.
func TestReadSyntax(t *testing.T) {
	const good = "1 u fail r1\n"
	for _, text := range []string{
		"\n", " \n", "1 u reflow", "1 u fail r1", " 1 u reflow\n", "1 u reflow \n", "1  u reflow\n", "1 u  reflow\n", "1\tu reflow\n", "1 u reflow\r\n",
		"1\n", "1 u\n", "u\n", "u reflow\n", "reflow\n", "1 reflow\n", "1 u r1\n", "1 u \n",
		"1 u fail\n", "1 u repair\n", "1 u fail \n", "1 u fail  r1\n", "1 u fail r1 \n", "1 u fail r1 r2\n", "1 u repair r1 r2\n", "1 u fail\n r1\n",
		"1 u reflow r1\n", "1 u pass r1\n", "1 u scrap r1\n", "1 u ship r1\n", "1 u reflow reflow\n", "1 u pass fail\n", "1 u fail r1 r2 r3\n",
		"1 u Reflow\n", "1 u reflows\n", "1 u reflo\n", "1 u 1\n", "1 u failr1\n", "1 u fails r1\n", "1 u x r1\n", "1 u soldered\n", "1 u ship\x00\n", "1 fail u r1\n", "1 u r1 fail\n",
		"x u reflow\n", "01 u reflow\n", "-0 u reflow\n", "+1 u reflow\n", "1.0 u reflow\n", "- u reflow\n", "-01 u reflow\n", "1_0 u reflow\n", "0x1 u reflow\n",
		"1000000000000000 u reflow\n", "-1000000000000000 u reflow\n", "01 u fail r1\n", "x u fail r1\n",
	} {
		is(t, fmt.Sprintf("%q", text), three(rework.Read(text)), list{steps(""), 0, api.ErrSyntax})
		is(t, fmt.Sprintf("%q", text), three(rework.Read(good+"2 u reflow\n"+text)), list{steps(""), 2, api.ErrSyntax})
		if strings.HasSuffix(text, "\n") { // the first line that has not the form
			is(t, fmt.Sprintf("%q", text), three(rework.Read(good+text+good+"x\n"+text)), list{steps(""), 1, api.ErrSyntax})
		}
	}
}

// TestReadErrors holds the errors of Read, and their order.
func TestReadErrors(t *testing.T) {
	const line = "1 u fail r1\n"
	for _, c := range []struct {
		text string
		line int
		want api.Errno
	}{
		{"-1 u reflow\n", 0, api.ErrArg},
		{line + fmt.Sprint(api.End, " u reflow\n"), 0, api.ErrArg},
		{"999999999999999 u reflow\n", 0, api.ErrArg},
		{"-999999999999999 u reflow\n", 0, api.ErrArg},
		{"1 U reflow\n", 0, api.ErrName},
		{line + "1 7 reflow\n", 0, api.ErrName},
		{"1 u fail R1\n", 0, api.ErrName},
		{"1 u repair 1\n", 0, api.ErrName},
		{"1 u repair \xff\n", 0, api.ErrName},
		{"1 u fail r1\r\n", 0, api.ErrName},
		{"1 u\t reflow\n", 0, api.ErrName},
		{"1 " + long + "k reflow\n", 0, api.ErrName},
		{"1 u fail " + long + "k\n", 0, api.ErrName},
		{line + "0 u fail r1\n", 0, api.ErrOrder},
		{"1 U reflow\n1\n", 1, api.ErrSyntax}, // before names
		{line + "0 u fail r1\n1", 2, api.ErrSyntax},
		{strings.Repeat(line, api.MaxSteps+1), 0, api.ErrLarge},
		{strings.Repeat(line, api.MaxSteps+1) + "\n", api.MaxSteps + 1, api.ErrSyntax}, // before too many steps
		{strings.Repeat("1 U fail r1\n", api.MaxSteps+1), 0, api.ErrLarge},
		{strings.Repeat("x", api.MaxText), 0, api.ErrSyntax},
		{strings.Repeat(" ", api.MaxText), 0, api.ErrSyntax},
		{strings.Repeat("\n", api.MaxText), 0, api.ErrSyntax},
		{strings.Repeat("x", api.MaxText+1), 0, api.ErrLarge},
		{strings.Repeat(line, api.MaxText/len(line)+1), 0, api.ErrLarge},
	} {
		is(t, fmt.Sprintf("%.60q", c.text), three(rework.Read(c.text)), list{steps(""), c.line, c.want})
	}
}
