package setup_test

import (
	"strings"
	"testing"

	"reelfeeder/api"
	"reelfeeder/setup"
)

func TestText(t *testing.T) {
	longest := names("k", api.MaxSetup)
	for i := range longest {
		longest[i] += long[len(longest[i]):]
	}
	for _, c := range []struct {
		s    []string
		want string
	}{
		{slots("a - b"), "a\n-\nb\n"},
		{slots("-"), "-\n"},
		{slots("c b a"), "c\nb\na\n"},
		{longest, strings.Join(longest, "\n") + "\n"},
		{make([]string, api.MaxSetup), strings.Repeat("-\n", api.MaxSetup)},
	} {
		is(t, c.want, two(setup.Text(c.s)), list{c.want, api.OK})
		is(t, c.want, three(setup.Read(c.want)), list{c.s, 0, api.OK})
	}
}

func TestTextErrors(t *testing.T) {
	is(t, "no slots", two(setup.Text(nil)), list{"", api.ErrNone})
	is(t, "too many", two(setup.Text(make([]string, api.MaxSetup+1))), list{"", api.ErrLarge})
	is(t, "no key", two(setup.Text(slots("a A"))), list{"", api.ErrName})
	is(t, "minus", two(setup.Text([]string{"-"})), list{"", api.ErrName})
	is(t, "twice", two(setup.Text(slots("a a"))), list{"", api.ErrTwice})
}

func TestReadErrors(t *testing.T) {
	for _, c := range []struct {
		text string
		line int
		want api.Errno
	}{
		{"", 0, api.ErrNone},
		{"\n", 0, api.ErrSyntax},
		{"a\n\n", 1, api.ErrSyntax},
		{"a\n\nb\n", 1, api.ErrSyntax},
		{"a\n-\nb", 2, api.ErrSyntax},
		{"a", 0, api.ErrSyntax},
		{"-", 0, api.ErrSyntax},
		{" \n", 0, api.ErrSyntax},
		{"a\n b\n", 1, api.ErrSyntax},
		{"a\nb \n", 1, api.ErrSyntax},
		{"a b\n", 0, api.ErrSyntax},
		{"a\na  b\n", 1, api.ErrSyntax},
		{"A\na\na\nb c\n", 3, api.ErrSyntax}, // the form comes before names
		{"a\nA\n", 0, api.ErrName},
		{"a\r\n", 0, api.ErrName},
		{"a\tb\n", 0, api.ErrName},
		{"\xff\n", 0, api.ErrName},
		{"--\n", 0, api.ErrName},
		{"-a\n", 0, api.ErrName},
		{long + "k\n", 0, api.ErrName},
		{"a\n-\n-\na\n", 0, api.ErrTwice},
		{strings.Repeat("-\n", api.MaxSetup+1), 0, api.ErrLarge},
		{strings.Repeat("-\n", api.MaxSetup+1) + "\n", api.MaxSetup + 1, api.ErrSyntax},
		{strings.Repeat("a", api.MaxText), 0, api.ErrSyntax},
		{strings.Repeat("a", api.MaxText-1) + "\n", 0, api.ErrName},
		{strings.Repeat("a", api.MaxText) + "\n", 0, api.ErrLarge},
		{strings.Repeat("\n", api.MaxText+1), 0, api.ErrLarge},
	} {
		is(t, c.text[:min(len(c.text), 60)], three(setup.Read(c.text)), list{[]string{}, c.line, c.want})
	}
}
