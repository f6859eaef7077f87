package detcheck_test

import (
	"fmt"
	"slices"
	"strings"
	"testing"

	"lockstep/api"
	"lockstep/detcheck"
)

// Memory: what is handed in stays as it was, its spare room too; what is answered is nobody else's, and comes again the same.
func TestMemory(t *testing.T) {
	t.Parallel()
	m := newMaker(t, 178)
	for i := range 3000 {
		if i%20 == 0 {
			m.tables()
		}
		s := m.stmt()
		was := show(m.c.Tables())
		x, xx := withRoom(stmt(t, s)), withRoom(stmt(t, s))
		ps, pps := withRoom(theParams()), withRoom(theParams())
		places, why := detcheck.Fixed(m.c, x, ps)
		is, _ := detcheck.Settled(m.c, x, ps)
		stays, _ := detcheck.Single(m.c, x, ps, "p")
		if !untouched(x, xx) || !untouched(ps, pps) || show(m.c.Tables()) != was {
			t.Fatalf("%s: what was handed in has changed", s)
		}
		want := slices.Clone(places)
		for i := range places[:cap(places)] {
			places[:cap(places)][i] = 77
		}
		also, again := detcheck.Fixed(m.c, x, ps)
		isStill, _ := detcheck.Settled(m.c, x, ps)
		staysStill, _ := detcheck.Single(m.c, x, ps, "p")
		if !slices.Equal(also, want) || why != again || is != isStill || stays != staysStill {
			t.Fatalf("%s: %v %v, not %v %v", s, also, again, want, why)
		}
	}
}

// A catalog stays as it was, whatever is asked of its procedures.
func TestCatalogStays(t *testing.T) {
	c := made(t, tables+proc("f", "p", good, stop, "LET n = "+good, away)+proc("g", "", away, here))
	tables, procs := show(c.Tables()), show(c.Procs())
	for range 3 {
		procIs(t, c, "f", 3, api.ErrRoute)
		procIs(t, c, "g", 1, api.ErrOrder)
		allIs(t, c, "f", 3, api.ErrRoute)
	}
	if show(c.Tables()) != tables || show(c.Procs()) != procs {
		t.Error("the catalog has changed")
	}
}

// What is as great as it may be: all columns of four Froms in a row, but for the first of them, which begins nothing; in an order in which each comes behind the one that it hangs on, and in the other one.
func TestGreat(t *testing.T) {
	var cols, keys, row []string
	from := "w AS x0"
	for i := range api.MaxCols {
		cols = append(cols, fmt.Sprintf("c%d BIGINT NOT NULL", i))
		if i > 0 {
			keys = append(keys, fmt.Sprintf("UNIQUE k%d (c0, c%d)", i, i))
		}
	}
	for n := 2; n < api.MaxFrom*api.MaxCols; n++ {
		row = append(row, fmt.Sprintf("x%d.c%d = x%d.c%d", (n-1)/16, (n-1)%16, n/16, n%16))
	}
	for i := 1; i < api.MaxFrom; i++ {
		from += fmt.Sprintf(" JOIN w AS x%d ON TRUE", i)
	}
	c := made(t, "CREATE TABLE w ("+strings.Join(cols, ", ")+", PRIMARY KEY (c0), "+strings.Join(keys, ", ")+") PARTITION BY c0;")
	for range 2 {
		for begin, many := range map[string]int{"x0.c0": 1, "x0.c1": 63, "x1.c7": 63, "x3.c15": 63} {
			x := stmt(t, "SELECT 1 FROM "+from+" WHERE "+strings.Join(row, " AND ")+" AND "+begin+" = :p")
			if l, why := detcheck.Fixed(c, x, theParams()); len(l) != many || why != api.OK {
				t.Error(begin, len(l), why)
			}
			is, why := detcheck.Settled(c, x, theParams())
			stays, also := detcheck.Single(c, x, theParams(), "p")
			if is || why != api.OK || stays || also != api.OK {
				t.Error(begin, is, why, stays, also)
			}
		}
		slices.Reverse(row)
	}
}
