package rework

import (
	"strconv"

	"reelfeeder/api"
	"reelfeeder/word"
)

// kindWord is the word of a kind of steps.
func kindWord(kind int) string {
	switch kind {
	case api.StepReflow:
		return "reflow"
	case api.StepFail:
		return "fail"
	case api.StepPass:
		return "pass"
	case api.StepRepair:
		return "repair"
	case api.StepScrap:
		return "scrap"
	}
	return "ship"
}

// kindCalled is the kind of steps with a word.
func kindCalled(name string) (int, bool) {
	for kind := api.StepReflow; kind <= api.StepShip; kind++ {
		if kindWord(kind) == name {
			return kind, true
		}
	}
	return 0, false
}

// Text writes steps.
func Text(s []api.Step) (string, api.Errno) {
	if e := CheckSteps(s); e != api.OK {
		return "", e
	}
	var lines []string
	for _, step := range s {
		lines = append(lines, write(step))
	}
	return word.Text(lines)
}

// write is the line of a step.
func write(s api.Step) string {
	words := []string{strconv.Itoa(s.At), s.Board, kindWord(s.Kind)}
	if hasComponent(s.Kind) {
		words = append(words, s.Component)
	}
	return word.Line(words...)
}

// Read reads steps.
func Read(text string) ([]api.Step, int, api.Errno) {
	var s []api.Step
	line, e := word.Scan(text, func(_ int, words []string) bool {
		step, ok := read(words)
		s = append(s, step)
		return ok
	})
	if e == api.OK {
		e = CheckSteps(s)
	}
	if e != api.OK {
		return nil, line, e
	}
	return s, 0, api.OK
}

// read reads the words of a step.
func read(words []string) (api.Step, bool) {
	if len(words) < 3 {
		return api.Step{}, false
	}
	at, isNumber := word.Number(words[0], word.MaxDigits)
	kind, isKind := kindCalled(words[2])
	s, rest := api.Step{At: at, Board: words[1], Kind: kind}, words[3:]
	if hasComponent(kind) {
		if len(rest) == 0 {
			return api.Step{}, false
		}
		s.Component, rest = rest[0], rest[1:]
	}
	return s, isNumber && isKind && len(rest) == 0
}
