package plan

import (
	"slices"

	"lockstep/api"
	"lockstep/kept"
)

// accesses is one for each From, in the order in which they are gone through.
func (s *scene) accesses() []api.Access {
	l := make([]api.Access, 0, len(s.froms))
	var gone ahead
	for range s.froms {
		a := s.next(gone)
		gone[a.From] = true
		l = append(l, a)
	}
	return l
}

// next is the access of the From that comes next: of those that are as good the one that stands first.
func (s *scene) next(gone ahead) api.Access {
	var l []api.Access
	for i := range s.froms {
		if !gone[i] {
			l = append(l, s.access(i, gone))
		}
	}
	return slices.MaxFunc(l, func(a, b api.Access) int {
		return slices.Compare(s.worth(&a), s.worth(&b))
	})
}

// worth is how good an access is: what counts most stands first.
func (s *scene) worth(a *api.Access) []int {
	isOne := a.Key >= 0 && isWhole(&s.froms[a.From].Form.Keys[a.Key], len(a.Same))
	isCut := a.Low.Op != "" || a.High.Op != ""
	return []int{number(isOne), len(a.Same), number(isCut)}
}

func number(so bool) int {
	if so {
		return 1
	}
	return 0
}

// isWhole tells whether so many columns of a key tell one row.
func isWhole(k *api.Key, bound int) bool {
	return k.Unique && bound == len(k.Cols)
}

// access is how a From is come to behind others.
func (s *scene) access(from int, gone ahead) api.Access {
	a := api.Access{From: from, Key: s.key(from, gone)}
	if a.Key < 0 {
		return a
	}
	cols := s.froms[from].Form.Keys[a.Key].Cols
	same := s.same(from, cols, gone)
	for _, b := range same {
		a.Same = append(a.Same, kept.Expr(&b.other))
	}
	if len(same) == len(cols) {
		return a
	}
	further := spot{from, cols[len(same)]}
	if b := s.bound(further, gone, ">", ">="); b != nil {
		a.Low, a.LowIn = kept.Expr(&b.other), b.sign == ">="
	}
	if b := s.bound(further, gone, "<", "<="); b != nil {
		a.High, a.HighIn = kept.Expr(&b.other), b.sign == "<="
	}
	return a
}

// key is the number of the key by which a From is come to, below 0 if there is none.
func (s *scene) key(from int, gone ahead) int {
	keys := s.froms[from].Form.Keys
	worth := make([][]int, 0, len(keys))
	for i := range keys {
		n := len(s.same(from, keys[i].Cols, gone))
		worth = append(worth, []int{n, number(isWhole(&keys[i], n))})
	}
	best := slices.MaxFunc(worth, slices.Compare[[]int])
	if best[0] > 0 {
		return slices.IndexFunc(worth, func(w []int) bool { return slices.Equal(w, best) })
	}
	return slices.IndexFunc(keys, func(k api.Key) bool {
		return s.bound(spot{from, k.Cols[0]}, gone, "<", "<=", ">", ">=") != nil
	})
}

// same is what binds the first of some columns by =, as far as there is no gap.
func (s *scene) same(from int, cols []int, gone ahead) []*binding {
	var l []*binding
	for _, col := range cols {
		b := s.bound(spot{from, col}, gone, "=")
		if b == nil {
			break
		}
		l = append(l, b)
	}
	return l
}
