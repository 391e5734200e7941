package printer

import (
	"strings"

	"foyer/api"
)

// A rulesWriter writes rules.
type rulesWriter struct {
	writer
}

func (w *rulesWriter) rules(rules api.Rules) {
	if !w.require(len(rules.Items) <= api.MaxItems) {
		return
	}
	for _, item := range rules.Items {
		w.item(item)
	}
}

func (w *rulesWriter) item(item api.Item) {
	words := [...]string{
		api.RuleAllow:    "allow",
		api.RuleDeny:     "deny",
		api.RulePrice:    "price",
		api.RuleResale:   "resale",
		api.RuleRefund:   "refund",
		api.RuleTogether: "together",
		api.RuleSingle:   "single",
	}
	w.oneOf(words[:], item.Kind)
	w.names(item.Name)
	w.terms(item)
	w.when(item.When)
	w.line(";")
}

// terms writes the number and the ratios of a rule; those that its kind does not have must be zero.
func (w *rulesWriter) terms(item api.Item) {
	rest := item
	switch item.Kind {
	case api.RuleAllow:
		rest.N = 0
		if item.N != 0 {
			w.word("limit")
			w.numbers(item.N)
		}
	case api.RulePrice:
		rest.N, rest.R, rest.S = 0, api.Ratio{}, api.Ratio{}
		w.numbers(item.N)
		w.ratioIfAny("fee", item.R)
		w.ratioIfAny("tax", item.S)
	case api.RuleResale:
		rest.R, rest.S = api.Ratio{}, api.Ratio{}
		w.word("cap")
		w.ratio(item.R)
		w.word("share")
		w.ratio(item.S)
	case api.RuleRefund:
		rest.R = api.Ratio{}
		w.ratio(item.R)
	}
	none := api.Ratio{}
	w.require(rest.N == 0 && rest.R == none && rest.S == none)
}

// ratioIfAny writes a ratio behind a word, or nothing for the one that is read where nothing stands.
func (w *rulesWriter) ratioIfAny(word string, ratio api.Ratio) {
	unwritten := api.Ratio{Num: 0, Den: 1}
	if ratio != unwritten {
		w.word(word)
		w.ratio(ratio)
	}
}

func (w *rulesWriter) ratio(ratio api.Ratio) {
	w.word(w.digits(ratio.Num) + "/" + w.digits(ratio.Den))
}

func (w *rulesWriter) when(alternatives [][]api.Test) {
	if !w.require(len(alternatives) <= api.MaxTests) {
		return
	}
	word := "when"
	for _, tests := range alternatives {
		w.word(word)
		w.tests(tests)
		word = "or"
	}
}

func (w *rulesWriter) tests(tests []api.Test) {
	if !w.require(0 < len(tests) && len(tests) <= api.MaxTests) {
		return
	}
	for i, test := range tests {
		if i > 0 {
			w.word("and")
		}
		w.test(test)
	}
}

func (w *rulesWriter) test(test api.Test) {
	words := [...]string{
		api.OpEqual:   "=",
		api.OpUnlike:  "!=",
		api.OpLess:    "<",
		api.OpAtMost:  "<=",
		api.OpMore:    ">",
		api.OpAtLeast: ">=",
	}
	w.names(test.Attr)
	w.oneOf(words[:], test.Op)
	if test.Name == "" {
		w.numbers(test.N)
		return
	}
	w.require(test.N == 0)
	w.names(strings.SplitN(test.Name, ".", 2)...)
}
