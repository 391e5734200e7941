package printer

import (
	"strconv"
	"strings"

	"foyer/api"
	"foyer/lexer"
)

// greatest is the greatest number of a token.
const greatest = 9999999999

// A writer collects the lines of a text, and notes whether something cannot be written.
type writer struct {
	text    []byte
	open    int // how many things are open around the next line
	refused bool
}

// finish returns the text, unless something cannot be written or the text is beyond a limit.
func (w *writer) finish() (string, api.Errno) {
	if w.refused {
		return "", api.ErrArg
	}
	text := string(w.text)
	// All words of the text are tokens, so that an error can only be about their number, or the length.
	if _, err, _ := lexer.Lex(text); err != api.OK {
		return "", api.ErrLimit
	}
	return text, api.OK
}

// require tells whether a condition holds, without which the text is refused.
func (w *writer) require(holds bool) bool {
	w.refused = w.refused || !holds
	return holds
}

// line ends a line with a symbol, or with none.
func (w *writer) line(symbol string) {
	w.put(symbol, "\n")
}

// begin ends the line of a thing that has others in it.
func (w *writer) begin() {
	w.word("{")
	w.line("")
	w.open++
}

// end writes the last line of a thing that has others in it.
func (w *writer) end() {
	w.open--
	w.word("}")
	w.line("")
}

// word writes a word: the first one of a line behind its tabs, others behind a blank.
func (w *writer) word(word string) {
	before := " "
	if len(w.text) == 0 || w.text[len(w.text)-1] == '\n' {
		before = strings.Repeat("\t", w.open)
	}
	w.put(before, word)
}

// oneOf writes the word of a kind; words has none at 0, which is no kind.
func (w *writer) oneOf(words []string, kind int) {
	if w.require(0 < kind && kind < len(words)) {
		w.word(words[kind])
	}
}

// names writes names as one word with points between them.
func (w *writer) names(names ...string) {
	for _, name := range names {
		if !w.require(isName(name)) {
			return
		}
	}
	w.word(strings.Join(names, "."))
}

// numbers writes a word for each number.
func (w *writer) numbers(numbers ...int) {
	for _, number := range numbers {
		w.word(w.digits(number))
	}
}

func (w *writer) digits(number int) string {
	w.require(0 <= number && number <= greatest)
	return strconv.Itoa(number)
}

func (w *writer) put(parts ...string) {
	for _, part := range parts {
		// A text that is too long is never returned: only whether the rest can be written still matters.
		if len(w.text) <= api.MaxSource {
			w.text = append(w.text, part...)
		}
	}
}

func isName(text string) bool {
	tokens, err, _ := lexer.Lex(text)
	return err == api.OK && len(tokens) == 1 && tokens[0].Kind == api.TokName && tokens[0].Text == text
}
