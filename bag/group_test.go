package bag_test

import (
	"fmt"
	"math/big"
	"math/rand"
	"strconv"
	"strings"
	"testing"

	"lockstep/api"
)

// P13.2: grouped, those whose Group expressions are the same answer one row; without Group all are one, if there are none, too.
func TestGroups(t *testing.T) {
	c, d := made(t, plain), plainData()
	for s, want := range map[string]string{
		"SELECT COUNT(*) FROM t":                                                           "4",
		"SELECT COUNT(*) FROM t WHERE FALSE":                                               "0",
		"SELECT COUNT(*) FROM t WHERE FALSE GROUP BY b":                                    "",
		"SELECT 7, COUNT(*), :p, NULL FROM t WHERE FALSE":                                  "7, 0, 1, NULL",
		"SELECT 7, COUNT(*), :r FROM t":                                                    "7, 4, 'x'",
		"SELECT 7 FROM t GROUP BY b":                                                       "7; 7; 7",
		"SELECT b FROM t GROUP BY b":                                                       "NULL; 5; 7",
		"SELECT b, COUNT(*) FROM t GROUP BY b":                                             "NULL, 1; 5, 2; 7, 1",
		"SELECT COUNT(*), b FROM t GROUP BY b":                                             "1, NULL; 1, 7; 2, 5",
		"SELECT COUNT(*) FROM t GROUP BY b":                                                "1; 1; 2",
		"SELECT d, s, COUNT(*) FROM t GROUP BY d, s":                                       "NULL, 'y', 1; 1.5, 'x', 2; 2.5, NULL, 1",
		"SELECT s, COUNT(*) FROM t GROUP BY s, d":                                          "NULL, 1; 'x', 2; 'y', 1",
		"SELECT f, COUNT(*) FROM t GROUP BY f":                                             "NULL, 1; FALSE, 2; TRUE, 1",
		"SELECT b + 1, COUNT(*) FROM t GROUP BY b + 1":                                     "NULL, 1; 6, 2; 8, 1",
		"SELECT b IS NULL, COUNT(*) FROM t GROUP BY b IS NULL":                             "FALSE, 3; TRUE, 1",
		"SELECT COUNT(*) FROM t GROUP BY 1":                                                "4",
		"SELECT COUNT(*) FROM t GROUP BY NULL":                                             "4",
		"SELECT b, b AS x, COUNT(*) FROM t GROUP BY b, b":                                  "NULL, NULL, 1; 5, 5, 2; 7, 7, 1",
		"SELECT t.a, COUNT(*) FROM t JOIN u ON t.a >= u.a GROUP BY t.a":                    "1, 1; 2, 1; 3, 2; 4, 2",
		"SELECT u.a, COUNT(*), SUM(b) FROM t JOIN u ON t.a >= u.a GROUP BY u.a":            "1, 4, 17; 3, 2, 12",
		"SELECT SUM(b), COUNT(b), COUNT(*) AS n, MIN(b), MAX(b), AVG(b) FROM t":            "17, 3, 4, 5, 7, 5.6667",
		"SELECT f, MAX(s), MIN(s), MAX(d) AS m, SUM(d) FROM t GROUP BY f":                  "NULL, NULL, NULL, 2.5, 2.5; FALSE, 'y', 'x', 1.5, 1.5; TRUE, 'x', 'x', 1.5, 1.5",
		"SELECT MIN(f), MAX(f), COUNT(DISTINCT f) FROM t":                                  "FALSE, TRUE, 2",
		"SELECT SUM(a * b) FROM t WHERE a <> 1":                                            "53",
		"SELECT b, SUM(a + b) FROM t GROUP BY b":                                           "NULL, NULL; 5, 15; 7, 11",
		"SELECT COUNT(NULL), SUM(NULL), MIN(NULL), MAX(NULL), AVG(NULL) FROM t":            "0, NULL, NULL, NULL, NULL",
		"SELECT COUNT(1), SUM(1), AVG(1), MIN(1), MAX(1) FROM t":                           "4, 4, 1.0, 1, 1",
		"SELECT COUNT(DISTINCT 1), SUM(DISTINCT 1), AVG(DISTINCT 1) FROM t":                "1, 1, 1.0",
		"SELECT COUNT(DISTINCT b), SUM(DISTINCT b), AVG(DISTINCT b) FROM t":                "2, 12, 6.0",
		"SELECT MIN(DISTINCT b), MAX(DISTINCT b), COUNT(DISTINCT s) FROM t":                "5, 7, 2",
		"SELECT COUNT(s), COUNT(DISTINCT s) AS n, COUNT(*) AS m FROM t":                    "3, 2, 4",
		"SELECT SUM(d), AVG(d), SUM(DISTINCT d) AS n, AVG(DISTINCT d) AS m FROM t":         "5.5, 1.8333, 4.0, 2.0",
		"SELECT COUNT(b), SUM(b), MIN(b), MAX(b), AVG(b) FROM t WHERE FALSE":               "0, NULL, NULL, NULL, NULL",
		"SELECT COUNT(b), SUM(b), MIN(b), MAX(b), AVG(b) FROM t WHERE b IS NULL":           "0, NULL, NULL, NULL, NULL",
		"SELECT COUNT(DISTINCT b), SUM(DISTINCT b), AVG(DISTINCT b) FROM t WHERE a = 1":    "0, NULL, NULL",
		"SELECT COUNT(DISTINCT b), MIN(DISTINCT s), MAX(DISTINCT d) FROM t WHERE FALSE":    "0, NULL, NULL",
		"SELECT SUM(x.a), SUM(DISTINCT x.a) AS n FROM u AS x JOIN u AS y ON TRUE":          "39, 13",
		"SELECT MIN(s || 'z') FROM t":                                                      "'xz'",
		"SELECT SUM(CASE WHEN f THEN 1 ELSE 0 END), SUM(COALESCE(b, 0)) AS n FROM t":       "1, 17",
		"SELECT MAX(CASE WHEN a = 1 THEN 1 ELSE 1.5 END) FROM t":                           "1.5",
		"SELECT COUNT(DISTINCT CASE WHEN a = 1 THEN 5 ELSE CAST(b AS DECIMAL) END) FROM t": "2",
	} {
		says(t, c, d, s, want)
	}
	empty := data("", "")
	says(t, c, empty, "SELECT COUNT(*), SUM(b), 5 FROM t", "0, NULL, 5")
	says(t, c, empty, "SELECT COUNT(*) FROM t JOIN u ON TRUE", "0")
	says(t, c, empty, "SELECT 5 FROM t GROUP BY a", "")
	says(t, c, empty, "SELECT 5 FROM t", "")
}

// P13.2: an item that is no agg is what stands in Group, as a value, also if values differ that are equal in size.
func TestGroupsBySame(t *testing.T) {
	c := made(t, "CREATE TABLE t (a BIGINT, s VARCHAR(9), PRIMARY KEY (a));")
	d := data("1, '1'; 2, '01'; 3, ' 1'; 4, '1'; 5, 'A'; 6, 'a'; 7, NULL; 8, ''")
	says(t, c, d, "SELECT s, COUNT(*), MIN(a) FROM t GROUP BY s", "NULL, 1, 7; '', 1, 8; ' 1', 1, 3; '01', 1, 2; '1', 2, 1; 'A', 1, 5; 'a', 1, 6")
	says(t, c, d, "SELECT LENGTH(s), COUNT(*) FROM t GROUP BY LENGTH(s)", "NULL, 1; 0, 1; 1, 4; 2, 2")
	says(t, c, d, "SELECT s IS NULL AND a > 0, a / 4 FROM t GROUP BY a / 4, s IS NULL AND a > 0", "FALSE, 0; FALSE, 1; FALSE, 2; TRUE, 1")
	// Junk behind a value does not make another one of it.
	d = api.Data{{{num(1), {Type: api.Text, Text: "x", Int: 1}}, {num(2), {Type: api.Text, Text: "x", Int: 2}}, {num(3), {Type: api.Null, Int: 3}}, {{Type: api.BigInt, Int: 4, Text: "x"}, {Type: api.Null, Text: "y"}}}}
	says(t, c, d, "SELECT s, COUNT(*), COUNT(DISTINCT s) AS n FROM t GROUP BY s", "NULL, 2, 0; 'x', 2, 1")
	says(t, c, d, "SELECT DISTINCT s FROM t", "NULL; 'x'")
	says(t, c, d, "SELECT a, s FROM t", "1, 'x'; 2, 'x'; 3, NULL; 4, NULL")
	says(t, c, d, "SELECT MAX(a), MIN(s) FROM t", "4, 'x'")
	says(t, c, d, "SELECT a FROM t WHERE s = 'x' AND a + 0 = 1 OR s IS NULL", "1; 3; 4")
}

// numbers is a table of one column of numbers, as they stand, and its schema.
func numbers(typ string, l ...string) (string, api.Data) {
	var d []api.Row
	for i, s := range l {
		d = append(d, api.Row{num(int64(i)), rows(s)[0][0]})
	}
	return "CREATE TABLE t (a BIGINT, b " + typ + ", PRIMARY KEY (a));", api.Data{d}
}

const (
	most  = "9223372036854775807"
	least = "-9223372036854775808"
	mostD = "922337203685477.5807"
	lessD = "-922337203685477.5808"
)

// P13.2: sums are reckoned without an end, and are ErrOver if they are none of the type then; averages go to the nearest DECIMAL, a half away from nought.
func TestSumsAndAverages(t *testing.T) {
	for _, x := range []struct {
		typ      string
		l        []string
		sum, avg string // empty: ErrOver
	}{
		{"BIGINT", []string{most, "1", "-1"}, most, ""},
		{"BIGINT", []string{most, most, least, least, "7"}, "5", "1.0"},
		{"BIGINT", []string{least, "-1", "1"}, least, ""},
		{"BIGINT", []string{most, "1"}, "", ""},
		{"BIGINT", []string{least, "-1"}, "", ""},
		{"BIGINT", []string{most}, most, ""},
		{"BIGINT", []string{least, least, most, most, "1"}, "-1", "-0.2"},
		{"BIGINT", []string{"922337203685477"}, "922337203685477", "922337203685477.0"},
		{"BIGINT", []string{"922337203685478"}, "922337203685478", ""},
		{"BIGINT", []string{"-922337203685477"}, "-922337203685477", "-922337203685477.0"},
		{"BIGINT", []string{"-922337203685478"}, "-922337203685478", ""},
		{"BIGINT", []string{"922337203685477", "922337203685478"}, "1844674407370955", "922337203685477.5"},
		{"BIGINT", []string{"922337203685478", "922337203685478", "922337203685477"}, "2767011611056433", ""}, // .6667
		{"BIGINT", []string{"922337203685477", "922337203685477", "922337203685478"}, "2767011611056432", "922337203685477.3333"},
		{"BIGINT", []string{"1", "2"}, "3", "1.5"},
		{"BIGINT", []string{"1", "1", "2"}, "4", "1.3333"},
		{"BIGINT", []string{"-1", "-2", "-2"}, "-5", "-1.6667"},
		{"BIGINT", []string{"1", "NULL", "2"}, "3", "1.5"},
		{"BIGINT", []string{"0", "0"}, "0", "0.0"},
		{"BIGINT", []string{"1", "-1"}, "0", "0.0"},
		{"BIGINT", []string{"NULL"}, "NULL", "NULL"},
		{"BIGINT", nil, "NULL", "NULL"},
		{"DECIMAL", []string{"0.0001", "0.0"}, "0.0001", "0.0001"},
		{"DECIMAL", []string{"-0.0001", "0.0"}, "-0.0001", "-0.0001"},
		{"DECIMAL", []string{"0.0001", "0.0", "0.0"}, "0.0001", "0.0"},
		{"DECIMAL", []string{"-0.0001", "0.0", "0.0"}, "-0.0001", "0.0"},
		{"DECIMAL", []string{"0.0002", "0.0", "0.0"}, "0.0002", "0.0001"},
		{"DECIMAL", []string{"-0.0002", "0.0", "0.0"}, "-0.0002", "-0.0001"},
		{"DECIMAL", []string{"0.0001", "0.0", "0.0", "0.0"}, "0.0001", "0.0"},
		{"DECIMAL", []string{"0.0003", "0.0"}, "0.0003", "0.0002"},
		{"DECIMAL", []string{"-0.0003", "0.0"}, "-0.0003", "-0.0002"},
		{"DECIMAL", []string{"0.0003", "0.0", "0.0", "0.0"}, "0.0003", "0.0001"},
		{"DECIMAL", []string{"-0.0003", "0.0", "0.0", "0.0"}, "-0.0003", "-0.0001"},
		{"DECIMAL", []string{"0.0002", "0.0", "0.0", "0.0"}, "0.0002", "0.0001"},
		{"DECIMAL", []string{"1.5", "2.5", "NULL"}, "4.0", "2.0"},
		{"DECIMAL", []string{mostD, mostD}, "", mostD},
		{"DECIMAL", []string{lessD, lessD}, "", lessD},
		{"DECIMAL", []string{mostD, "0.0001"}, "", "461168601842738.7904"},
		{"DECIMAL", []string{lessD, "-0.0001"}, "", "-461168601842738.7905"},
		{"DECIMAL", []string{mostD, "0.0001", "-0.0001"}, mostD, "307445734561825.8602"},
		{"DECIMAL", []string{mostD, lessD}, "-0.0001", "-0.0001"},
		{"DECIMAL", []string{"NULL", "NULL"}, "NULL", "NULL"},
	} {
		schema, d := numbers(x.typ, x.l...)
		c := made(t, schema)
		for s, want := range map[string]string{"SELECT SUM(b) FROM t": x.sum, "SELECT AVG(b) FROM t": x.avg} {
			if want == "" {
				errs(t, c, d, s, api.ErrOver)
			} else {
				says(t, c, d, s, want)
			}
		}
	}
}

// P13.2: ErrOver of a sum is an error of an item like any other one.
func TestSumsAmongErrors(t *testing.T) {
	schema, d := numbers("BIGINT", most, "1", "0")
	c := made(t, schema)
	errs(t, c, d, "SELECT SUM(b), SUM(1 / b) AS n FROM t", api.ErrOver)
	errs(t, c, d, "SELECT SUM(1 / b) AS n, SUM(b) FROM t", api.ErrOver)
	errs(t, c, d, "SELECT SUM(b), SUM(CAST('x' AS BIGINT)) AS n FROM t", api.ErrForm)
	errs(t, c, d, "SELECT SUM(b) AS n FROM t HAVING n = 0", api.ErrOver)
	says(t, c, d, "SELECT SUM(b) FROM t WHERE a <> 1", most)
	says(t, c, d, "SELECT a / 2, SUM(b) FROM t WHERE b <> 1 GROUP BY a / 2", "0, "+most+"; 1, 0")
	errs(t, c, d, "SELECT a / 2, SUM(b) FROM t GROUP BY a / 2", api.ErrOver)
	// Each once, it stays within.
	schema, d = numbers("BIGINT", most, most, "-1", "-1")
	c = made(t, schema)
	errs(t, c, d, "SELECT SUM(b) FROM t", api.ErrOver)
	says(t, c, d, "SELECT SUM(DISTINCT b) FROM t", "9223372036854775806")
	// A sum over values of which one errs is not reckoned.
	schema, d = numbers("BIGINT", most, most, "0")
	c = made(t, schema)
	errs(t, c, d, "SELECT SUM(b + 0 / b) FROM t", api.ErrZero)
	// Rows of which what they are grouped by errs are in no group: not in one with each other, nor in that of NULL.
	schema, d = numbers("BIGINT", "0", "0", "NULL", "5")
	c = made(t, schema)
	errs(t, c, d, "SELECT SUM("+most+") FROM t WHERE b = 0 GROUP BY 1 / b", api.ErrZero)
	errs(t, c, d, "SELECT SUM("+most+") FROM t WHERE a > 0 GROUP BY 1 / b", api.ErrZero)
	errs(t, c, d, "SELECT AVG(922337203685477.0 + a) FROM t GROUP BY 1 / b, b", api.ErrOver)
}

// P13.2: sums and averages of numbers at random, held against numbers without an end.
func TestSumsAtRandom(t *testing.T) {
	r := rand.New(rand.NewSource(133))
	over := 0
	for range 1500 {
		typ := 1 + r.Intn(2)
		var d []api.Row
		sum, n := new(big.Int), int64(0)
		for i := range 1 + r.Intn(6) {
			v := api.Value{Type: typ, Int: r.Int63() >> r.Intn(63)}
			if r.Intn(2) == 0 {
				v.Int = -v.Int - int64(r.Intn(2))
			}
			if r.Intn(9) == 0 {
				v = null()
			} else {
				sum.Add(sum, big.NewInt(v.Int))
				n++
			}
			d = append(d, api.Row{num(int64(i)), v})
		}
		c := made(t, "CREATE TABLE t (a BIGINT, b "+[]string{"BIGINT", "DECIMAL"}[typ-1]+", PRIMARY KEY (a));")
		for s, want := range map[string]*big.Rat{"SELECT SUM(b) FROM t": new(big.Rat).SetInt(sum), "SELECT AVG(b) FROM t": nil} {
			out := typ
			if want == nil {
				want = new(big.Rat).SetFrac(sum, big.NewInt(max(n, 1)))
				if typ == api.BigInt {
					want.Mul(want, big.NewRat(api.Scale, 1))
				}
				out = api.Dec
			}
			v, why := nearest(want, out)
			if n == 0 {
				v, why = null(), api.OK
			}
			if why != api.OK {
				over++
				errs(t, c, api.Data{d}, s, why)
				continue
			}
			says(t, c, api.Data{d}, s, told([]api.Row{{v}}))
		}
	}
	if over < 100 {
		t.Error("too few:", over)
	}
}

// nearest is the number of a type that is nearest, a half away from nought, or ErrOver.
func nearest(x *big.Rat, typ int) (api.Value, api.Errno) {
	half := big.NewRat(1, 2)
	if x.Sign() < 0 {
		half.Neg(half)
	}
	x = new(big.Rat).Add(x, half)
	n := new(big.Int).Quo(x.Num(), x.Denom()) // towards nought
	if !n.IsInt64() {
		return null(), api.ErrOver
	}
	return api.Value{Type: typ, Int: n.Int64()}, api.OK
}

// P13.2: aggs of many values: as many as there may be, each as great as it may be.
func TestGreatSums(t *testing.T) {
	t.Parallel()
	c := made(t, joined)
	var l []api.Row
	for i := range 4096 {
		l = append(l, api.Row{num(int64(i)), num(1<<63 - 1 - int64(i%2)*(1<<63-1)*2)})
	}
	d := api.Data{l, many(256), nil}
	says(t, c, d, "SELECT SUM(b) AS s, AVG(b) AS v, COUNT(b) AS n FROM t JOIN u ON TRUE", "0, 0.0, 1048576")
	errs(t, c, d, "SELECT SUM(b) FROM t JOIN u ON TRUE WHERE b > 0", api.ErrOver)
	errs(t, c, d, "SELECT AVG(b) FROM t JOIN u ON TRUE WHERE b > 0", api.ErrOver)
	says(t, c, d, "SELECT AVG(b / 10000) FROM t JOIN u ON TRUE WHERE b > 0", "922337203685477.0")
	says(t, c, d, "SELECT AVG(b / 10000) FROM t JOIN u ON TRUE WHERE b < 0", "-922337203685477.0")
	says(t, c, d, "SELECT COUNT(DISTINCT t.a * 256 + u.a) FROM t JOIN u ON TRUE", "1048576")
	// An average that is just below 2^64 ten-thousandths, and goes up to that; one of 2^63, above nought and below.
	for sum, want := range map[string]string{
		"422430439287948732": "", "422430439287948733": "", "-422430439287948732": "",
		"211215219643974366": "", "-211215219643974366": "-922337203685477.5808", "-211215219643974367": "", "211215219643974365": "922337203685477.5764",
	} {
		n, _ := strconv.ParseInt(sum, 10, 64)
		l := many(229)
		for i := range l {
			l[i][1] = num(n / 229)
		}
		l[0][1].Int += n % 229
		if d := (api.Data{l, nil, nil}); want == "" {
			errs(t, c, d, "SELECT AVG(b) FROM t", api.ErrOver)
		} else {
			says(t, c, d, "SELECT AVG(b) FROM t", want)
		}
	}
}

// P13.2: what an agg is of may be anything that a row has, also of several tables; its items stand in their places.
func TestAggsBesideEachOther(t *testing.T) {
	c, d := made(t, plain), plainData()
	var items, want []string
	for i, x := range []struct{ item, is string }{
		{"SUM(a)", "10"}, {"COUNT(*)", "4"}, {"MIN(a)", "1"}, {"MAX(a)", "4"}, {"AVG(a)", "2.5"}, {"SUM(b)", "17"}, {"COUNT(b)", "3"}, {"COUNT(DISTINCT b)", "2"},
		{"1", "1"}, {"'x'", "'x'"}, {"NULL", "NULL"}, {"MIN(s)", "'x'"}, {"MAX(d)", "2.5"}, {"MIN(f)", "FALSE"}, {"SUM(DISTINCT b)", "12"}, {"AVG(DISTINCT b)", "6.0"},
	} {
		items, want = append(items, fmt.Sprint(x.item, " AS n", i)), append(want, x.is)
	}
	says(t, c, d, "SELECT "+strings.Join(items, ", ")+" FROM t", strings.Join(want, ", "))
}
