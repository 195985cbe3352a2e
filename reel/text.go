package reel

import (
	"strconv"

	"reelfeeder/api"
	"reelfeeder/word"
)

// Text writes events.
func Text(f []api.Feed) (string, api.Errno) {
	if len(f) > api.MaxFeeds {
		return "", api.ErrLarge
	}
	var lines []string
	for _, event := range f {
		line, e := write(event)
		if e != api.OK {
			return "", e
		}
		lines = append(lines, line)
	}
	return word.Text(lines)
}

// write is the line of an event.
func write(f api.Feed) (string, api.Errno) {
	k, e := checkForm(f)
	if e != api.OK {
		return "", e
	}
	words := []string{strconv.Itoa(f.At), k.word}
	keys := true
	name := func(field *string) {
		words = append(words, *field)
		keys = keys && word.Key(*field)
	}
	count := func(field *int) { words = append(words, strconv.Itoa(*field)) }
	k.fields(&f, name, count)
	if !keys {
		return "", api.ErrName
	}
	return word.Line(words...), api.OK
}

// Read reads events.
func Read(text string) ([]api.Feed, int, api.Errno) {
	var f []api.Feed
	line, e := word.Scan(text, func(_ int, words []string) bool {
		event, ok := read(words)
		f = append(f, event)
		return ok
	})
	if e == api.OK && len(f) > api.MaxFeeds {
		e = api.ErrLarge
	}
	if e != api.OK {
		return nil, line, e
	}
	return f, 0, api.OK
}

// read reads the words of an event.
func read(words []string) (api.Feed, bool) {
	if len(words) < 2 {
		return api.Feed{}, false
	}
	at, ok := word.Number(words[0], word.MaxDigits)
	number, k, is := kindCalled(words[1])
	f, rest := api.Feed{At: at, Kind: number}, words[2:]
	next := func() string {
		if len(rest) == 0 {
			return "" // neither a key nor a number
		}
		first := rest[0]
		rest = rest[1:]
		return first
	}
	name := func(field *string) {
		*field = next()
		ok = ok && word.Key(*field)
	}
	count := func(field *int) {
		n, isNumber := word.Number(next(), word.MaxDigits)
		*field = n
		ok = ok && isNumber
	}
	k.fields(&f, name, count)
	return f, ok && is && len(rest) == 0
}
