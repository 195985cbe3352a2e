package inspect

import (
	"strconv"

	"reelfeeder/api"
	"reelfeeder/word"
)

// The words that tell whether a component is bad.
const (
	badWord  = "bad"
	fineWord = "fine"
)

// verdictWord is the word of a verdict.
func verdictWord(verdict int) string {
	switch verdict {
	case api.VerdictGood:
		return "good"
	case api.VerdictMissing:
		return "missing"
	case api.VerdictShifted:
		return "shifted"
	case api.VerdictTurned:
		return "turned"
	}
	return "soldered"
}

// verdictCalled is the verdict with a word.
func verdictCalled(name string) (int, bool) {
	for verdict := api.VerdictGood; verdict <= api.VerdictSoldered; verdict++ {
		if verdictWord(verdict) == name {
			return verdict, true
		}
	}
	return 0, false
}

// Text writes looks.
func Text(l []api.Look) (string, api.Errno) {
	if e := CheckLooks(l); e != api.OK {
		return "", e
	}
	var lines []string
	for _, look := range l {
		lines = append(lines, write(look))
	}
	return word.Text(lines)
}

// write is the line of a look.
func write(look api.Look) string {
	state := fineWord
	if look.Bad {
		state = badWord
	}
	return word.Line(strconv.Itoa(look.At), look.Board, look.Name, verdictWord(look.Verdict), state, look.Machine, look.Nozzle, look.Reel)
}

// Read reads looks.
func Read(text string) ([]api.Look, int, api.Errno) {
	var l []api.Look
	line, e := word.Scan(text, func(_ int, words []string) bool {
		look, ok := read(words)
		l = append(l, look)
		return ok
	})
	if e == api.OK {
		e = CheckLooks(l)
	}
	if e != api.OK {
		return nil, line, e
	}
	return l, 0, api.OK
}

// read reads the words of a look.
func read(words []string) (api.Look, bool) {
	if len(words) != 8 {
		return api.Look{}, false
	}
	at, isNumber := word.Number(words[0], word.MaxDigits)
	verdict, isVerdict := verdictCalled(words[3])
	isBad := words[4] == badWord
	return api.Look{
		Board: words[1], Name: words[2], At: at, Verdict: verdict, Bad: isBad,
		Machine: words[5], Nozzle: words[6], Reel: words[7],
	}, isNumber && isVerdict && (isBad || words[4] == fineWord)
}
