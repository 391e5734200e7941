package rule_test

import (
	"regexp"
	"slices"
	"strconv"
	"strings"

	"foyer/api"
	"foyer/lexer"
)

// grammar is the chapter's.
const grammar = `
rules: { rule }
rule:  head [ "when" and { "or" and } ] ";"
head:  "allow" NAME [ "limit" INT ]
     | "deny" NAME
     | "price" NAME INT [ "fee" ratio ] [ "tax" ratio ]
     | "resale" NAME "cap" ratio "share" ratio
     | "refund" NAME ratio
     | "together" NAME
     | "single" NAME
and:   test { "and" test }
test:  NAME ( "=" | "!=" | "<" | "<=" | ">" | ">=" ) ( INT | NAME [ "." NAME ] )
ratio: INT "/" INT
`

// A spot is the index of a token, and how many rules, lists of tests of the last rule, and tests of the last list have begun before it.
type spot struct {
	at, rules, lists, tests int
}

// A judge tries all ways in which tokens can be read by the grammar.
type judge struct {
	tokens []api.Token
	far    int // the last token that was not as some way required it
	limit  int // the token that begins an element beyond a limit, or -1
}

// A form is a part of the grammar: from a spot, it finds where it can end.
type form func(j *judge, from spot) []spot

// A reader has the parts of the grammar that are not read yet, and the forms with names.
type reader struct {
	parts []string
	forms map[string]form
}

var rulesOfGrammar = readGrammar()

// judged returns the error of a text and its offset by trying all ways to read it.
func judged(text string) (api.Errno, int) {
	tokens, err, at := lexer.Lex(text)
	if err != api.OK {
		return err, at
	}
	j := &judge{tokens: tokens, far: -1, limit: -1}
	for _, end := range rulesOfGrammar(j, spot{}) {
		if end.at == len(tokens) {
			return api.OK, 0
		}
		j.far = max(j.far, end.at)
	}
	switch {
	case j.limit >= 0:
		return api.ErrLimit, tokens[j.limit].At
	case j.far == len(tokens):
		return api.ErrEnd, len(text)
	}
	return api.ErrSyntax, tokens[j.far].At
}

func readGrammar() form {
	r := &reader{regexp.MustCompile(`"[^"]*"|[A-Za-z]+:?|[][{}()|]`).FindAllString(grammar, -1), map[string]form{}}
	for len(r.parts) > 0 {
		name := strings.TrimSuffix(r.next(), ":")
		r.forms[name] = r.choice()
	}
	return r.forms["rules"]
}

func (r *reader) next() string {
	part := r.parts[0]
	r.parts = r.parts[1:]
	return part
}

// choice reads alternatives up to a closing bracket, the next rule of the grammar or the end.
func (r *reader) choice() form {
	var alternatives, sequence []form
	for len(r.parts) > 0 && !strings.Contains("]})", r.parts[0]) && !strings.HasSuffix(r.parts[0], ":") {
		switch part := r.next(); part {
		case "|":
			alternatives = append(alternatives, inSequence(sequence))
			sequence = nil
		case "{", "[", "(":
			inner := r.choice()
			r.next()
			sequence = append(sequence, map[string]func(form) form{"{": repeated, "[": optional, "(": once}[part](inner))
		default:
			sequence = append(sequence, r.single(part))
		}
	}
	return eitherOf(append(alternatives, inSequence(sequence)))
}

func eitherOf(alternatives []form) form {
	return func(j *judge, from spot) []spot {
		var ends []spot
		for _, alternative := range alternatives {
			ends = append(ends, alternative(j, from)...)
		}
		return ends
	}
}

func inSequence(forms []form) form {
	return func(j *judge, from spot) []spot {
		ends := []spot{from}
		for _, next := range forms {
			var further []spot
			for _, end := range ends {
				further = append(further, next(j, end)...)
			}
			ends = further
		}
		return ends
	}
}

func repeated(inner form) form {
	return func(j *judge, from spot) []spot {
		ends := []spot{from}
		for i := 0; i < len(ends); i++ {
			for _, end := range inner(j, ends[i]) {
				if !slices.Contains(ends, end) {
					ends = append(ends, end)
				}
			}
		}
		return ends
	}
}

func optional(inner form) form {
	return func(j *judge, from spot) []spot { return append(inner(j, from), from) }
}

func once(inner form) form { return inner }

func (r *reader) single(part string) form {
	fits := func(token api.Token) bool { return strconv.Quote(token.Text) == part }
	switch {
	case part == "NAME":
		fits = func(token api.Token) bool { return token.Kind == api.TokName }
	case part == "INT":
		fits = func(token api.Token) bool { return token.Kind == api.TokNumber }
	case part[0] != '"':
		return func(j *judge, from spot) []spot {
			from, permitted := j.begin(part, from)
			if !permitted {
				return nil
			}
			return r.forms[part](j, from)
		}
	}
	return func(j *judge, from spot) []spot {
		if from.at < len(j.tokens) && fits(j.tokens[from.at]) {
			from.at++
			return []spot{from}
		}
		j.far = max(j.far, from.at)
		return nil
	}
}

// begin counts what begins at a spot, unless that is one too many.
func (j *judge) begin(name string, from spot) (spot, bool) {
	number, most := 0, 1
	switch name {
	case "rule":
		number, most = from.rules, api.MaxItems
		from.rules, from.lists = from.rules+1, 0
	case "and":
		number, most = from.lists, api.MaxTests
		from.lists, from.tests = from.lists+1, 0
	case "test":
		number, most = from.tests, api.MaxTests
		from.tests++
	}
	if number == most && from.at < len(j.tokens) {
		j.limit = from.at
		return spot{}, false
	}
	return from, true
}
