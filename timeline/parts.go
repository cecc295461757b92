package timeline

import (
	"iter"

	"aircheck/api"
)

// parts yields the parts of the spans of the valid timeline l that lie in s, in order; none if s has no seconds.
func parts(l []api.Span, s api.Spell) iter.Seq[api.Span] {
	return func(yield func(api.Span) bool) {
		for _, p := range l {
			p.From, p.To = max(p.From, s.From), min(p.To, s.To)
			if p.From < p.To && !yield(p) {
				return
			}
		}
	}
}

// each calls take with each of the spans, in order.
func each(spans iter.Seq[api.Span], take func(api.Span)) {
	for s := range spans {
		take(s)
	}
}

// builder is a timeline, or what lies in a spell of one, that is being built from its first second on.
type builder struct {
	spans []api.Span
}

// add adds s, which begins where what has been built ends.
func (b *builder) add(s api.Span) {
	b.spans = extend(b.spans, s, uniteSpans)
}

// timeline returns what has been built, or ErrTimeline if it has too many spans.
func (b *builder) timeline() ([]api.Span, api.Errno) {
	if len(b.spans) > api.MaxSpans {
		return nil, api.ErrTimeline
	}
	return b.spans, api.OK
}

// extend returns l with next after it; if the last element of l and next are equal neighbours, unite has made one of them, which takes the place of both.
func extend[T any](l []T, next T, unite func(last, next T) (T, bool)) []T {
	if len(l) > 0 {
		if one, ok := unite(l[len(l)-1], next); ok {
			l[len(l)-1] = one
			return l
		}
	}
	return append(l, next)
}

// uniteSpans returns one span for two, of which the second one begins where the first one ends, if they have the same owner.
func uniteSpans(last, next api.Span) (api.Span, bool) {
	return api.Span{From: last.From, To: next.To, Owner: next.Owner}, last.Owner == next.Owner
}

// uniteSpells returns one spell for two if the second one begins where the first one ends.
func uniteSpells(last, next api.Spell) (api.Spell, bool) {
	return api.Spell{From: last.From, To: next.To}, last.To == next.From
}

func spellOf(s api.Span) api.Spell {
	return api.Spell{From: s.From, To: s.To}
}
