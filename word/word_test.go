package word_test

import (
	"slices"
	"strings"
	"testing"

	"reelfeeder/api"
	"reelfeeder/word"
)

// TestKey holds Z11: what a key is.
func TestKey(t *testing.T) {
	for _, s := range []string{"a", "z", "a0", "a-_9z", "c100-x7r_2", strings.Repeat("k", api.MaxName)} {
		if !word.Key(s) {
			t.Errorf("%q is a key", s)
		}
	}
	for _, s := range []string{"", "A", "aB", "0a", "-a", "_a", "a b", " a", "a ", "a.", "a\n", "a\x00", "é", "aé", "a\xff", "a`", "a{", "{", "`", "a/", "a:", strings.Repeat("k", api.MaxName+1)} {
		if word.Key(s) {
			t.Errorf("%q is no key", s)
		}
	}
}

func TestRising(t *testing.T) {
	for words, want := range map[string]api.Errno{
		"": api.OK, "a": api.OK, "a-1 a1 a_1 b": api.OK,
		"A": api.ErrName, "a b C": api.ErrName, "a A": api.ErrName,
		"a a": api.ErrOrder, "b a": api.ErrOrder, "a c b d": api.ErrOrder, "b a A": api.ErrOrder, "a1 a-1": api.ErrOrder,
	} {
		if e := word.Rising(strings.Fields(words)); e != want {
			t.Errorf("%q: got %d", words, e)
		}
	}
}

// TestNumber holds Z10: how numbers are written.
func TestNumber(t *testing.T) {
	good := map[string]int{"0": 0, "7": 7, "10": 10, "-1": -1, "-10": -10, "999999999999999": 999_999_999_999_999, "-999999999999999": -999_999_999_999_999}
	for s, want := range good {
		if n, ok := word.Number(s, word.MaxDigits); n != want || !ok {
			t.Errorf("%q: got %d, %v", s, n, ok)
		}
	}
	for _, s := range []string{"", "-", "-0", "00", "01", "-01", "+1", "--1", "1-", " 1", "1 ", "1.0", "1e3", "0x1", "1_0", "1000000000000000", "-1000000000000000", "٣", "a", "1\n", "/", ":"} {
		if n, ok := word.Number(s, word.MaxDigits); n != 0 || ok {
			t.Errorf("%q: got %d, %v", s, n, ok)
		}
	}
	if _, ok := word.Number("1000", 3); ok {
		t.Error("1000 has more than 3 digits")
	}
	if n, ok := word.Number("-100", 3); n != -100 || !ok {
		t.Error("-100 has 3 digits")
	}
	if n, ok := word.Number("99999999999999999999", 30); n != 0 || ok {
		t.Error("a number that is no int was accepted")
	}
}

func TestNumbers(t *testing.T) {
	if n, ok := word.Numbers([]string{"3", "-4", "0"}); !slices.Equal(n, []int{3, -4, 0}) || !ok {
		t.Error(n, ok)
	}
	if n, ok := word.Numbers([]string{"3", "x"}); n != nil || ok {
		t.Error(n, ok)
	}
}

// TestScan holds Z9 (lines and blanks) and the numbers of lines that have not their form.
func TestScan(t *testing.T) {
	long := strings.Repeat("a", api.MaxText-1)
	cases := []struct {
		text string
		line int
		e    api.Errno
		seen string
	}{
		{"", 0, api.OK, ""},
		{"a b\nc\n", 0, api.OK, "[a b][c]"},
		{"a\tb\r\n", 0, api.OK, "[a\tb\r]"},
		{"a\nb", 1, api.ErrSyntax, "[a]"},
		{"a", 0, api.ErrSyntax, ""},
		{"\n", 0, api.ErrSyntax, ""},
		{"a\n\n", 1, api.ErrSyntax, "[a]"},
		{"a\n b\n", 1, api.ErrSyntax, "[a]"},
		{"a\nb \n", 1, api.ErrSyntax, "[a]"},
		{"a  b\n", 0, api.ErrSyntax, ""},
		{"a\nb\nstop\nc\n", 2, api.ErrSyntax, "[a][b][stop]"},
		{long + "\n", 0, api.OK, "[" + long + "]"},
		{long + "\n\n", 0, api.ErrLarge, ""},
	}
	for _, c := range cases {
		seen := ""
		next := 0
		line, e := word.Scan(c.text, func(line int, words []string) bool {
			if line != next {
				t.Errorf("%.20q: line %d, want %d", c.text, line, next)
			}
			next++
			seen += "[" + strings.Join(words, " ") + "]"
			return words[0] != "stop"
		})
		if line != c.line || e != c.e || seen != c.seen {
			t.Errorf("%.20q: got %d, %d, %.40q", c.text, line, e, seen)
		}
	}
}

func TestText(t *testing.T) {
	if s, e := word.Text([]string{word.Line("a", "b"), word.Line("c")}); s != "a b\nc\n" || e != api.OK {
		t.Error(s, e)
	}
	line := word.Line(strings.Repeat("a", api.MaxText/2-1))
	if s, e := word.Text([]string{line, line}); s != line+line || e != api.OK {
		t.Error("MaxText bytes are not too many:", len(s), e)
	}
	if s, e := word.Text([]string{line, line, "\n"}); s != "" || e != api.ErrLarge {
		t.Error("more than MaxText bytes are too many:", len(s), e)
	}
}

// TestPairs holds how names with numbers are ordered, and that the numbers stay as they are.
func TestPairs(t *testing.T) {
	numbers := map[string]int{"b": 2, "a-1": 10, "a1": 2, "a": 0, "a_1": 2}
	byName := []api.Pair{{Name: "a", Value: "0"}, {Name: "a-1", Value: "10"}, {Name: "a1", Value: "2"}, {Name: "a_1", Value: "2"}, {Name: "b", Value: "2"}}
	byNumber := []api.Pair{{Name: "a-1", Value: "10"}, {Name: "a1", Value: "2"}, {Name: "a_1", Value: "2"}, {Name: "b", Value: "2"}, {Name: "a", Value: "0"}}
	for range 10 {
		if got := word.ByName(numbers); !slices.Equal(got, byName) {
			t.Error("by name:", got)
		}
		if got := word.ByNumber(numbers); !slices.Equal(got, byNumber) {
			t.Error("by number:", got)
		}
	}
	if len(numbers) != 5 || len(word.ByName(nil)) != 0 || len(word.ByNumber(nil)) != 0 {
		t.Error("changed, or something of nothing:", numbers)
	}
}
