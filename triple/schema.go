package triple

import (
	"slices"
	"strings"

	"tessera/api"
	"tessera/code"
	"tessera/value"
)

// Schema says whether s may be.
func Schema(s api.Schema) api.Errno {
	return first(Pred(s.Pred), unless(isType(s.Type) && marksFit(s), api.ErrSchema))
}

// isType says whether a predicate may have values of a kind.
func isType(kind api.ValueKind) bool {
	return kind == api.Bool || kind == api.Int || kind == api.Text || kind == api.Uid
}

// marksFit says whether s has each mark that is one type's alone only of that type.
func marksFit(s api.Schema) bool {
	return (!s.Term || s.Type == api.Text) && (!s.Order || s.Type == api.Int) && (!s.Reverse || s.Type == api.Uid)
}

// Fits says whether w may be written to the predicate of s.
func Fits(s api.Schema, w api.Write) api.Errno {
	return first(
		Schema(s),
		May(w.T),
		unless(w.T.Pred == s.Pred, api.ErrArg),
		unless(w.T.Val.Kind == s.Type, api.ErrType),
	)
}

// Claims is all that the writes claim, rising, each once, and how many writes there
// are; beside an error the place of the schema, or of the write, that is wrong.
func Claims(l []api.Schema, w ...api.Write) (keys []string, at int, e api.Errno) {
	if at, wrong := wrongSchema(l); wrong {
		return nil, at, api.ErrSchema
	}
	if len(w) > api.MaxWrites {
		return nil, api.MaxWrites, api.ErrLong
	}
	claimed := map[string]struct{}{}
	for i, one := range w {
		key, e := claim(l, one)
		if e != api.OK {
			return nil, i, e
		}
		claimed[key] = struct{}{}
	}
	return rising(claimed), len(w), api.OK
}

// wrongSchema is the first place of l at which it is no list of schemas any more.
func wrongSchema(l []api.Schema) (at int, wrong bool) {
	for i, s := range l {
		if i == api.MaxSchema || Schema(s) != api.OK || i > 0 && l[i-1].Pred >= s.Pred {
			return i, true
		}
	}
	return 0, false
}

// claim is what w claims by the schemas of l, which rise by their predicates.
func claim(l []api.Schema, w api.Write) (string, api.Errno) {
	if e := May(w.T); e != api.OK {
		return "", e
	}
	at, found := slices.BinarySearchFunc(l, w.T.Pred, func(s api.Schema, pred string) int {
		return strings.Compare(s.Pred, pred)
	})
	if !found {
		return "", api.ErrNone
	}
	if e := Fits(l[at], w); e != api.OK {
		return "", e
	}
	key := code.Key(w.T.Pred) + code.Num(w.T.Uid)
	if !l[at].List {
		return key, api.OK
	}
	val, e := value.Bytes(w.T.Val)
	return key + val, e
}

// Preds is the predicates of the writes, rising, each once, names or not.
func Preds(w ...api.Write) []string {
	preds := map[string]struct{}{}
	for _, one := range w {
		preds[one.T.Pred] = struct{}{}
	}
	return rising(preds)
}

// rising is the texts of a set, sorted, as a map tells them in any order.
func rising(set map[string]struct{}) []string {
	out := make([]string, 0, len(set))
	for s := range set {
		out = append(out, s)
	}
	slices.Sort(out)
	return out
}

// Clash says whether a text is in both lists.
func Clash(a, b []string) bool {
	set := map[string]struct{}{}
	for _, s := range a {
		set[s] = struct{}{}
	}
	for _, s := range b {
		if _, both := set[s]; both {
			return true
		}
	}
	return false
}
