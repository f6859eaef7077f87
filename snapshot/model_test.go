package snapshot_test

import (
	"bytes"
	"math/big"
	"strings"
	"unicode/utf8"

	"lockstep/api"
	"lockstep/table"
)

// The model reads bytes strictly, thing by thing, and notes whatever the document does not let stand there; it never writes them again.
type model struct {
	rest []byte
	bad  bool
}

// modelDecode is what bytes say, if they are a snapshot's.
func modelDecode(b []byte) (api.Snap, bool) {
	if len(b) < 8 || len(b) > 1<<23 || !bytes.Equal(hashed(b[:len(b)-8]), b[len(b)-8:]) {
		return api.Snap{}, false
	}
	m := &model{rest: b[:len(b)-8]}
	s := m.snap()
	if m.bad || len(m.rest) > 0 {
		return api.Snap{}, false
	}
	return s, true
}

func (m *model) need(so bool) { m.bad = m.bad || !so }

// value reads one value, whose first byte is not a row's end.
func (m *model) value() api.Value {
	cut := func(n int) []byte {
		if m.bad || len(m.rest) < n {
			m.bad = true
			return make([]byte, n)
		}
		b := m.rest[:n]
		m.rest = m.rest[n:]
		return b
	}
	switch cut(1)[0] {
	case 1:
		return null()
	case 2:
		b := cut(11)
		n := new(big.Int).SetBytes(b[:10])
		n.Sub(n, new(big.Int).Lsh(big.NewInt(1), 79))
		m.need(b[10] == 1 || b[10] == 2)
		if b[10] == 1 {
			rest := new(big.Int)
			n.QuoRem(n, big.NewInt(10000), rest)
			m.need(rest.Sign() == 0)
		}
		m.need(n.IsInt64())
		return api.Value{Type: int(b[10]), Int: n.Int64()}
	case 3:
		end := 0
		for end+1 < len(m.rest) && !(m.rest[end] == 0 && m.rest[end+1] == 0) {
			if m.rest[end] == 0 {
				m.need(m.rest[end+1] == 0xff)
				end++
			}
			end++
		}
		m.need(end+1 < len(m.rest))
		if m.bad {
			return null()
		}
		s := strings.ReplaceAll(string(cut(end)), "\x00\xff", "\x00")
		cut(2)
		m.need(utf8.ValidString(s) && len(s) <= 4096)
		return text(s)
	case 4:
		b := cut(1)[0]
		m.need(b < 2)
		return api.Value{Type: api.Bool, Int: int64(b)}
	}
	m.bad = true
	return null()
}

// row reads a row whose values have just these types: B a BIGINT, T a VARCHAR, L a BOOLEAN; * any more BIGINTs, ? any values.
func (m *model) row(types string) api.Row {
	var r api.Row
	for !m.bad && len(m.rest) > 0 && m.rest[0] != 0 {
		r = append(r, m.value())
		m.need(len(r) <= 16)
	}
	m.need(len(m.rest) > 0)
	if m.bad {
		return make(api.Row, 16)
	}
	m.rest = m.rest[1:]
	if types == "?" {
		return r
	}
	fixed := strings.TrimSuffix(types, "*")
	m.need(len(r) >= len(fixed) && (fixed != types || len(r) == len(fixed)))
	for i, v := range r {
		want := byte('B')
		if i < len(fixed) {
			want = fixed[i]
		}
		m.need(v.Type == map[byte]int{'B': api.BigInt, 'T': api.Text, 'L': api.Bool}[want])
	}
	if m.bad {
		return make(api.Row, 16)
	}
	return r
}

func (m *model) snap() api.Snap {
	head := m.row("TBB")
	m.need(head[0].Text == "lockstep snapshot" && head[1].Int >= 0 && head[2].Int >= 0 && head[2].Int <= 64)
	s := api.Snap{No: uint64(head[1].Int)}
	names := map[string]int{}
	for i := int64(0); i < head[2].Int && !m.bad; i++ {
		x := m.table()
		s.Tables = append(s.Tables, x)
		names[x.Form.Name]++
		m.need(names[x.Form.Name] == 1)
	}
	more := m.row("TB")
	m.need(more[0].Text == "more" && more[1].Int >= 0 && more[1].Int <= 1<<20 && more[1].Int <= int64(len(m.rest)))
	if !m.bad {
		s.More = bytes.Clone(m.rest[:more[1].Int])
		m.rest = m.rest[more[1].Int:]
	}
	return s
}

func (m *model) table() api.Stored {
	h := m.row("TBBBBBB")
	m.need(h[1].Int >= -1 && h[3].Int >= 0 && h[4].Int >= 0 && h[6].Int >= 0)
	x := api.Stored{Form: api.Table{Name: h[0].Text, Part: int(h[1].Int), Most: int(h[2].Int)}, Next: uint64(h[5].Int)}
	for i := int64(0); i < h[3].Int && !m.bad; i++ {
		c := m.row("TBBL")
		x.Form.Cols = append(x.Form.Cols, api.Column{Name: c[0].Text, Type: int(c[1].Int), Most: int(c[2].Int), NotNull: c[3] == yes()})
	}
	for i := int64(0); i < h[4].Int && !m.bad; i++ {
		r := m.row("TL*")
		k := api.Key{Name: r[0].Text, Unique: r[1] == yes()}
		for _, v := range r[2:] {
			k.Cols = append(k.Cols, int(v.Int))
		}
		x.Form.Keys = append(x.Form.Keys, k)
	}
	for i := int64(0); i < h[6].Int && !m.bad; i++ {
		id := m.row("B")
		x.Rows = append(x.Rows, api.Kept{ID: uint64(id[0].Int), Row: m.row("?")})
	}
	if !m.bad {
		_, why := table.Load(x.Form, x.Rows, x.Next)
		m.need(why == api.OK)
	}
	return x
}

// modelSame is whether the document's bytes of two snapshots are one, but that they may be of snapshots that can't be.
func modelSame(a, b api.Snap) bool { return bytes.Equal(bytesOf(a), bytesOf(b)) }
