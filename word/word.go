// Package word has the words of which names and texts of all chapters consist.
package word

import (
	"cmp"
	"maps"
	"slices"
	"strconv"
	"strings"

	"reelfeeder/api"
)

// MaxDigits is how many digits a number of a text can have.
const MaxDigits = 15

// Key says whether a word is a key.
func Key(s string) bool {
	if len(s) == 0 || len(s) > api.MaxName || !small(s[0]) {
		return false
	}
	for i := range len(s) {
		if !small(s[i]) && !digit(s[i]) && s[i] != '-' && s[i] != '_' {
			return false
		}
	}
	return true
}

// Rising validates keys, each one greater than the one before.
func Rising(words []string) api.Errno {
	for i, w := range words {
		switch {
		case !Key(w):
			return api.ErrName
		case i > 0 && w <= words[i-1]:
			return api.ErrOrder
		}
	}
	return api.OK
}

func small(b byte) bool { return 'a' <= b && b <= 'z' }

func digit(b byte) bool { return '0' <= b && b <= '9' }

// Number is the number that a word of at most so many digits (and perhaps a sign) stands for.
func Number(s string, most int) (int, bool) {
	digits := strings.TrimPrefix(s, "-")
	if len(digits) == 0 || len(digits) > most || digits[0] == '0' && s != "0" {
		return 0, false
	}
	for i := range len(digits) {
		if !digit(digits[i]) {
			return 0, false
		}
	}
	n, err := strconv.Atoi(s)
	if err != nil {
		return 0, false
	}
	return n, true
}

// Numbers are those that words of at most MaxDigits digits stand for.
func Numbers(words []string) ([]int, bool) {
	var list []int
	for _, w := range words {
		n, ok := Number(w, MaxDigits)
		if !ok {
			return nil, false
		}
		list = append(list, n)
	}
	return list, true
}

// Scan gives the words of each line of a text to take, up to the first line that has an empty word, that is not
// ended, or that take does not accept: the int is its number, with ErrSyntax.
func Scan(text string, take func(line int, words []string) bool) (int, api.Errno) {
	if len(text) > api.MaxText {
		return 0, api.ErrLarge
	}
	for line := 0; text != ""; line++ {
		this, rest, ended := strings.Cut(text, "\n")
		if !ended {
			return line, api.ErrSyntax
		}
		words := strings.Split(this, " ")
		if slices.Contains(words, "") || !take(line, words) {
			return line, api.ErrSyntax
		}
		text = rest
	}
	return 0, api.OK
}

// Line is a line of words, with the line feed that ends it.
func Line(words ...string) string {
	return strings.Join(words, " ") + "\n"
}

// Text is the text of lines, or ErrLarge if nobody could read it.
func Text(lines []string) (string, api.Errno) {
	text := strings.Join(lines, "")
	if len(text) > api.MaxText {
		return "", api.ErrLarge
	}
	return text, api.OK
}

// ByName are names with a number each, by name.
func ByName(numbers map[string]int) []api.Pair {
	return pairs(slices.Sorted(maps.Keys(numbers)), numbers)
}

// ByNumber are names with a number each, the greatest number first, of equal ones by name.
func ByNumber(numbers map[string]int) []api.Pair {
	names := slices.Sorted(maps.Keys(numbers))
	slices.SortStableFunc(names, func(a, b string) int { return cmp.Compare(numbers[b], numbers[a]) })
	return pairs(names, numbers)
}

// pairs are names with their numbers.
func pairs(names []string, numbers map[string]int) []api.Pair {
	var list []api.Pair
	for _, name := range names {
		list = append(list, api.Pair{Name: name, Value: strconv.Itoa(numbers[name])})
	}
	return list
}
