package exec_test

import (
	"testing"

	"lockstep/api"
	"lockstep/exec"
	"lockstep/plan"
)

// A plan is gone by: rows that its keys leave out are not looked at. Of each row that is, a copy is made; of thousands, that shows. All that an access can go by cuts off rows: Same, Low and High, in and not, and NULLs.
func TestGoesByKeys(t *testing.T) {
	c := made(t, "CREATE TABLE t (a BIGINT, b BIGINT, c BIGINT, PRIMARY KEY (a), INDEX i (b, a), INDEX k (c)); CREATE TABLE u (a BIGINT, PRIMARY KEY (a));")
	d := make(api.Data, 2)
	for i := range int64(api.MaxRows) { // b is NULL, 1, 3 of a thousand each, and 2 of ten
		b := num(i % 4)
		if i%4 == 0 {
			b = null()
		}
		if i%4 == 2 && i > 40 {
			b = num(3)
		}
		d[0] = append(d[0], api.Row{num(i), b, num(i / 2)})
		if i < 100 {
			d[1] = append(d[1], api.Row{num(i)})
		}
	}
	l := loaded(t, c, d)
	work := func(s string, p api.Plan) float64 {
		var why api.Errno
		n := testing.AllocsPerRun(3, func() { _, why = exec.Run(c, l, p, theParams(), theArgs()) })
		if why != api.OK {
			t.Fatal(s, why)
		}
		return n
	}
	for _, x := range []struct {
		s      string
		most   float64 // by its keys
		atOnce float64 // without, at least
	}{
		{"SELECT COUNT(*) FROM t WHERE a = -1", 300, 4000},
		{"SELECT COUNT(*) FROM t WHERE a = 77", 300, 4000},
		{"SELECT COUNT(*) FROM t WHERE a > 4090", 300, 4000},
		{"SELECT COUNT(*) FROM t WHERE a >= 4090", 300, 4000},
		{"SELECT COUNT(*) FROM t WHERE a < 5", 300, 4000},
		{"SELECT COUNT(*) FROM t WHERE a <= 5", 300, 4000},
		{"SELECT COUNT(*) FROM t WHERE a > 2000 AND a < 2005", 300, 4000},
		{"SELECT COUNT(*) FROM t WHERE b = 2", 300, 4000},
		{"SELECT COUNT(*) FROM t WHERE b > 1 AND b < 3", 300, 4000},
		{"SELECT COUNT(*) FROM t WHERE b >= 2 AND b <= 2", 300, 4000},
		{"SELECT COUNT(*) FROM t WHERE b = :n", 300, 4000},
		{"SELECT COUNT(*) FROM t WHERE b > :n", 300, 4000},
		{"SELECT COUNT(*) FROM t WHERE b <= :n", 300, 4000},
		{"SELECT COUNT(*) FROM t WHERE b = :n AND a > 5", 300, 4000},
		{"SELECT COUNT(*) FROM t WHERE b = 3 AND a > :n", 300, 4000},
		{"SELECT COUNT(*) FROM t WHERE b = 3 AND a < :n AND a > 0", 300, 4000},
		{"SELECT COUNT(*) FROM t WHERE b = 3 AND a > 4080", 300, 4000},
		{"SELECT COUNT(*) FROM t WHERE b = 3 AND a < 9", 300, 4000},
		{"SELECT COUNT(*) FROM t WHERE b = 3 AND a = 7", 300, 4000},
		{"UPDATE t SET c = 1 WHERE a = 77", 400, 4000},
		{"UPDATE t SET c = 1 WHERE c > 2040 AND b = 0", 400, 4000},
		{"DELETE FROM t WHERE c = 9999", 300, 4000},
		{"SELECT COUNT(*) FROM u AS x JOIN u AS y ON y.a = 7", 600, 300},
		{"SELECT COUNT(*) FROM u AS x JOIN u AS y ON TRUE", 600, 300},
		{"SELECT COUNT(*) FROM u AS x JOIN u AS y ON y.a > 1", 1000, 300},
		{"SELECT COUNT(*) FROM u AS x JOIN u AS y ON x.a = 9 AND y.a > x.a AND y.a < x.a + 3", 300, 350},
	} {
		p, why := plan.Make(c, stmt(t, x.s), theParams())
		if why != api.OK {
			t.Fatal(x.s, why)
		}
		by := work(x.s, p)
		for i := range p.Access {
			p.Access[i] = api.Access{From: i, Key: -1}
		}
		if without := work(x.s, p); by > x.most || without < x.atOnce {
			t.Errorf("%s: %v, without keys %v", x.s, by, without)
		}
	}
}
