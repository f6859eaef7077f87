package proc_test

import (
	"bytes"
	"encoding/binary"
	"hash/fnv"
	"math/rand"
	"strings"
	"testing"

	"lockstep/api"
	"lockstep/proc"
)

// same checks both ways whether two are the same.
func same(t *testing.T, a, b api.Outcome, want bool) {
	t.Helper()
	if proc.Same(a, b) != want || proc.Same(b, a) != want {
		t.Errorf("%s and %s: not %v", short(show(a)), short(show(b)), want)
	}
	if !proc.Same(a, a) || !proc.Same(b, b) {
		t.Errorf("%s is not the same as itself", short(show(a)))
	}
}

// P19.3: Same: by Err, Step, Text, and by answers, row by row, value by value, each of which may differ alone.
func TestSame(t *testing.T) {
	a := func() api.Outcome { return outcome("1, 'x', 1.5; 2, NULL, 0.0", "", "TRUE", "1; 2; 3") }
	same(t, a(), a(), true)
	same(t, api.Outcome{}, api.Outcome{Answers: [][]api.Row{}}, true)
	same(t, outcome(""), api.Outcome{Answers: [][]api.Row{{}}}, true)
	same(t, api.Outcome{Answers: [][]api.Row{{nil}}}, api.Outcome{Answers: [][]api.Row{{{}}}}, true)
	same(t, aborts(3, "x"), aborts(3, "x"), true)
	for _, o := range []api.Outcome{
		{}, outcome(""), outcome("", ""),
		outcome("1, 'x', 1.5; 2, NULL, 0.0", "", "TRUE"),
		outcome("1, 'x', 1.5; 2, NULL, 0.0", "", "TRUE", "1; 2; 3", ""),
		outcome("", "1, 'x', 1.5; 2, NULL, 0.0", "TRUE", "1; 2; 3"),
		outcome("1, 'x', 1.5; 2, NULL, 0.0", "TRUE", "", "1; 2; 3"),
		outcome("1, 'x', 1.5; 2, NULL, 0.0", "", "TRUE", "1; 2"),
		outcome("1, 'x', 1.5; 2, NULL, 0.0", "", "TRUE", "1; 2; 3; 3"),
		outcome("1, 'x', 1.5; 2, NULL, 0.0", "", "TRUE", "1; 3; 2"),
		outcome("2, NULL, 0.0; 1, 'x', 1.5", "", "TRUE", "1; 2; 3"),
		outcome("1, 'x', 1.5; 2, NULL", "", "TRUE", "1; 2; 3"),
		outcome("1, 'x', 1.5; 2, NULL, 0.0, NULL", "", "TRUE", "1; 2; 3"),
		outcome("1, 'x'; 1.5, 2, NULL, 0.0", "", "TRUE", "1; 2; 3"),
		outcome("1, 'x', 1.5; 2, NULL, 0.0", "", "FALSE", "1; 2; 3"),
		outcome("1, 'x', 1.5; 2, NULL, 0.0", "", "1", "1; 2; 3"),
		outcome("1, 'x', 1.5; 2, 0, 0.0", "", "TRUE", "1; 2; 3"),
		outcome("1, 'x', 1.5; 2, NULL, 0", "", "TRUE", "1; 2; 3"),
		outcome("1, 'y', 1.5; 2, NULL, 0.0", "", "TRUE", "1; 2; 3"),
		outcome("1, 'x ', 1.5; 2, NULL, 0.0", "", "TRUE", "1; 2; 3"),
		outcome("1, '', 1.5; 2, NULL, 0.0", "", "TRUE", "1; 2; 3"),
		outcome("1, 'x', 1.5001; 2, NULL, 0.0", "", "TRUE", "1; 2; 3"),
		outcome("1.0, 'x', 1.5; 2, NULL, 0.0", "", "TRUE", "1; 2; 3"),
		outcome("1, 'x', 1.5; 2, NULL, 0.0", "", "TRUE", "1; 2; 4"),
	} {
		same(t, a(), o, false)
	}
	for _, change := range []func(o *api.Outcome){
		func(o *api.Outcome) { o.Err = api.ErrArg }, func(o *api.Outcome) { o.Err = api.ErrAbort }, func(o *api.Outcome) { o.Err = -1 },
		func(o *api.Outcome) { o.Step = 1 }, func(o *api.Outcome) { o.Step = -1 }, func(o *api.Outcome) { o.Text = "x" },
	} {
		o := a()
		change(&o)
		same(t, a(), o, false)
		n := api.Outcome{}
		change(&n)
		same(t, api.Outcome{}, n, false)
		same(t, n, o, false)
	}
	same(t, aborts(3, "x"), aborts(3, "y"), false)
	same(t, aborts(3, "x"), aborts(2, "x"), false)
	same(t, aborts(3, "x"), aborts(3, ""), false)
	same(t, aborts(3, ""), fails(api.ErrOne, 3), false)
	// What types do not name plays no part.
	junk := api.Outcome{Answers: [][]api.Row{{{{Int: 3, Text: "junk"}, {Type: api.BigInt, Int: 1, Text: "junk"}, {Type: api.Text, Int: 5, Text: "x"}}}}}
	same(t, junk, outcome("NULL, 1, 'x'"), true)
	if proc.Digest(junk) != proc.Digest(outcome("NULL, 1, 'x'")) {
		t.Error("Digest tells what plays no part")
	}
}

// form is bytes put together by hand: a number has eight, a text stands behind how many it has, a list of bytes as it is.
func form(parts ...any) []byte {
	var b []byte
	for _, p := range parts {
		switch x := p.(type) {
		case int:
			b = binary.BigEndian.AppendUint64(b, uint64(x))
		case string:
			b = append(binary.BigEndian.AppendUint64(b, uint64(len(x))), x...)
		case []byte:
			b = append(b, x...)
		}
	}
	return b
}

// hashed is the library's hash of that name.
func hashed(b []byte) uint64 {
	h := fnv.New64a()
	h.Write(b)
	return h.Sum64()
}

// typ is a value's first byte.
func typ(n byte) []byte { return []byte{n} }

// P19.3: Digest by hand, byte by byte.
func TestDigest(t *testing.T) {
	for _, x := range []struct {
		o    api.Outcome
		form []byte
	}{
		{api.Outcome{}, bytes.Repeat([]byte{0}, 32)},
		{api.Outcome{}, form(0, 0, "", 0)},
		{fails(api.ErrOne, 1), form(130, 1, "", 0)},
		{aborts(31, "poor"), form(190, 31, "poor", 0)},
		{aborts(2, "é\x00"), form(190, 2, []byte{0, 0, 0, 0, 0, 0, 0, 3, 0xc3, 0xa9, 0}, 0)},
		{api.Outcome{Err: -1, Step: -1 << 63}, form(-1, -1<<63, "", 0)},
		{api.Outcome{Err: 0x0102030405060708, Step: 0x1112131415161718, Text: "x"}, []byte{1, 2, 3, 4, 5, 6, 7, 8, 0x11, 0x12, 0x13, 0x14, 0x15, 0x16, 0x17, 0x18, 0, 0, 0, 0, 0, 0, 0, 1, 'x', 0, 0, 0, 0, 0, 0, 0, 0}},
		{outcome(""), form(0, 0, "", 1, 0)},
		{outcome("", ""), form(0, 0, "", 2, 0, 0)},
		{api.Outcome{Answers: [][]api.Row{{{}, nil}, {{}}}}, form(0, 0, "", 2, 2, 0, 0, 1, 0)},
		{outcome("1"), form(0, 0, "", 1, 1, 1, typ(1), 1, "")},
		{outcome("NULL"), form(0, 0, "", 1, 1, 1, typ(0), 0, "")},
		{outcome("-1.5"), form(0, 0, "", 1, 1, 1, typ(2), -15000, "")},
		{outcome("'xyz'"), form(0, 0, "", 1, 1, 1, typ(3), 0, "xyz")},
		{outcome("TRUE, FALSE"), form(0, 0, "", 1, 1, 2, typ(4), 1, "", typ(4), 0, "")},
		{outcome("1, NULL; 2, 'é'", "", "-9223372036854775808"), form(0, 0, "", 3, 2, 2, typ(1), 1, "", typ(0), 0, "", 2, typ(1), 2, "", typ(3), 0, "é", 0, 1, 1, typ(1), -1<<63, "")},
		{api.Outcome{Err: 7, Step: 2, Text: "both", Answers: [][]api.Row{{{num(3)}}}}, form(7, 2, "both", 1, 1, 1, typ(1), 3, "")},
		// What types do not name.
		{api.Outcome{Answers: [][]api.Row{{{{Int: 9, Text: "junk"}}}}}, form(0, 0, "", 1, 1, 1, typ(0), 0, "")},
		{api.Outcome{Answers: [][]api.Row{{{{Type: api.BigInt, Int: 9, Text: "junk"}}}}}, form(0, 0, "", 1, 1, 1, typ(1), 9, "")},
		{api.Outcome{Answers: [][]api.Row{{{{Type: api.Dec, Int: 9, Text: "junk"}}}}}, form(0, 0, "", 1, 1, 1, typ(2), 9, "")},
		{api.Outcome{Answers: [][]api.Row{{{{Type: api.Text, Int: 9, Text: "junk"}}}}}, form(0, 0, "", 1, 1, 1, typ(3), 0, "junk")},
		{api.Outcome{Answers: [][]api.Row{{{{Type: api.Bool, Int: 9, Text: "junk"}}}}}, form(0, 0, "", 1, 1, 1, typ(4), 9, "")},
		{api.Outcome{Answers: [][]api.Row{{{{Type: 5, Int: 9, Text: "junk"}}}}}, form(0, 0, "", 1, 1, 1, typ(5), 0, "")},
		{outcome("'" + strings.Repeat("x", api.MaxText) + "'"), form(0, 0, "", 1, 1, 1, typ(3), 0, strings.Repeat("x", api.MaxText))},
	} {
		if got := proc.Digest(x.o); got != hashed(x.form) {
			t.Errorf("%s: %x, not %x", short(show(x.o)), got, hashed(x.form))
		}
	}
	// The same, reckoned elsewhere.
	for want, o := range map[uint64]api.Outcome{
		901300984310592933:  {},
		6147208203909779429: aborts(2, "poor"),
		532505161649527429:  outcome("1", "1", "1, 2; 2, 3; 3, NULL"),
	} {
		if got := proc.Digest(o); got != want {
			t.Errorf("%s: %d, not %d", show(o), got, want)
		}
	}
}

// randomOutcome is an outcome of few values, so that two are often nearly the same.
func randomOutcome(r *rand.Rand) api.Outcome {
	o := api.Outcome{}
	if r.Intn(3) == 0 {
		o = api.Outcome{Err: api.Errno(r.Intn(3)), Step: r.Intn(2), Text: []string{"", "x"}[r.Intn(2)]}
	}
	for range r.Intn(3) {
		var l []api.Row
		for range r.Intn(3) {
			var row api.Row
			for range r.Intn(3) {
				v := []api.Value{num(0), num(1), dec(0), dec(1), text(""), text("x"), truth(0), truth(1), null()}[r.Intn(9)]
				if v.Type != api.Text && r.Intn(8) == 0 {
					v.Text = "junk"
				}
				row = append(row, v)
			}
			l = append(l, row)
		}
		o.Answers = append(o.Answers, l)
	}
	return o
}

// written is an outcome as a text, by which two are the same just if their texts are.
func written(o api.Outcome) string {
	b := form(int(o.Err), o.Step, o.Text, len(o.Answers))
	for _, l := range o.Answers {
		b = append(b, form(len(l))...)
		for _, r := range l {
			b = append(b, form(len(r))...)
			for _, v := range r {
				if v.Type != api.Text {
					v.Text = ""
				}
				b = append(b, form(typ(byte(v.Type)), int(v.Int), v.Text)...)
			}
		}
	}
	return string(b)
}

// P19.3: outcomes at random, held against each other and against their forms.
func TestSameAtRandom(t *testing.T) {
	r := rand.New(rand.NewSource(193))
	var all []api.Outcome
	for range 700 {
		all = append(all, randomOutcome(r))
	}
	alike := 0
	for i, a := range all {
		if proc.Digest(a) != hashed([]byte(written(a))) {
			t.Fatalf("%s: %x", show(a), proc.Digest(a))
		}
		for _, b := range all[i:] {
			want := written(a) == written(b)
			if proc.Same(a, b) != want || proc.Same(b, a) != want || (proc.Digest(a) == proc.Digest(b)) != want {
				t.Fatalf("%s and %s: not %v", show(a), show(b), want)
			}
			if want {
				alike++
			}
		}
	}
	if alike < 2000 {
		t.Errorf("only %d are alike", alike)
	}
}
