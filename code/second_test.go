package code

import (
	"math/rand"
	"reflect"
	"slices"
	"testing"

	"distaff/api"
)

// bad is what ends a second reading.
type bad struct{}

// second is a second reading of bytes as a program: what may not be ends it all.
type second struct {
	s string
}

func (d *second) number(most uint64) uint64 {
	size := 1 + slices.IndexFunc([]byte(d.s), func(c byte) bool { return c < 128 })
	var n uint64
	for i := size - 1; i >= 0; i-- {
		n = n*128 + uint64(d.s[i])%128
	}
	if size == 0 || n > most || parts(n) != d.s[:size] {
		panic(bad{})
	}
	d.s = d.s[size:]
	return n
}

func (d *second) text(n uint64) string {
	if n > uint64(len(d.s)) {
		panic(bad{})
	}
	text := d.s[:n]
	d.s = d.s[n:]
	return text
}

func (d *second) row(most uint64) []int {
	l := make([]int, 0)
	for many := d.number(most); uint64(len(l)) < many; {
		l = append(l, int(d.number(1<<17))-1)
	}
	return l
}

func (d *second) function() api.Func {
	var f api.Func
	f.Name = d.text(d.number(1 << 20))
	f.Params = d.row(16)
	f.Ret = int(d.number(4))
	for many := d.number(1 << 17); many > 0; many-- {
		var x api.Ins
		x.Op = int(d.number(36))
		x.Type = int(d.number(4))
		x.Args = d.row(1 << 16)
		signed := d.number(anything)
		x.N = int64(signed>>1) ^ -int64(signed&1)
		x.To = int(d.number(256))
		f.Ins = append(f.Ins, x)
	}
	for many := d.number(1 << 16); many > 0; many-- {
		var k api.Block
		k.List = d.row(1 << 17)
		k.Preds = d.row(1 << 16)
		k.Term.Kind = int(d.number(3))
		k.Term.Arg = int(d.number(1<<17)) - 1
		k.Term.To = d.row(2)
		f.Blocks = append(f.Blocks, k)
	}
	return f
}

func secondDecode(s string) (p api.Prog, ok bool) {
	defer func() {
		if e := recover(); e != nil {
			_ = e.(bad)
			p, ok = api.Prog{}, false
		}
	}()
	d := &second{s: s}
	p.Main = int(d.number(256))
	for many := d.number(256); many > 0; many-- {
		p.Funcs = append(p.Funcs, d.function())
	}
	return p, d.s == "" && len(s) <= 1<<20
}

// chanceRow is a row made by chance, of numbers that a row may have.
func chanceRow(r *rand.Rand, most int) []int {
	var l []int
	for range r.Intn(most + 1) {
		l = append(l, r.Intn(1<<r.Intn(18)+1)-1)
	}
	return l
}

// chanceProg is a program made by chance, which need not be sound.
func chanceProg(r *rand.Rand) api.Prog {
	p := api.Prog{Main: r.Intn(257)}
	for range r.Intn(4) {
		name := make([]byte, r.Intn(1<<r.Intn(9)))
		r.Read(name)
		f := api.Func{Name: string(name), Params: chanceRow(r, 4), Ret: r.Intn(5)}
		for range r.Intn(6) {
			f.Ins = append(f.Ins, api.Ins{Op: r.Intn(37), Type: r.Intn(5), Args: chanceRow(r, 3), N: Unsign(chanceNumber(r)), To: r.Intn(257)})
		}
		for range r.Intn(4) {
			f.Blocks = append(f.Blocks, api.Block{List: chanceRow(r, 6), Preds: chanceRow(r, 3), Term: api.Term{Kind: r.Intn(4), Arg: r.Intn(1<<17+1) - 1, To: chanceRow(r, 2)}})
		}
		p.Funcs = append(p.Funcs, f)
	}
	return p
}

// spoilt is bytes of which some are others, gone, or new.
func spoilt(r *rand.Rand, s string) string {
	b := []byte(s)
	for range 1 + r.Intn(2) {
		at := r.Intn(len(b) + 1)
		one := []byte{byte(r.Intn(256))}
		if r.Intn(2) == 0 {
			one = []byte{byte(r.Intn(6)) + byte(128*r.Intn(2))}
		}
		switch r.Intn(3) {
		case 0:
			b = slices.Concat(b[:at], one, b[at:])
		case 1:
			b = slices.Concat(b[:at], b[min(at+1, len(b)):])
		case 2:
			b = slices.Concat(b[:at], one, b[min(at+1, len(b)):])
		}
	}
	return string(b)
}

// alike asks that both readings of bytes say the same, and that a program has these bytes alone. It tells whether there is one.
func alike(t *testing.T, s string) bool {
	t.Helper()
	want, ok := secondDecode(s)
	if !ok {
		fails(t, "spoilt", s)
		return false
	}
	decodes(t, s, want)
	if got, _ := Decode(s); Encode(got) != s {
		t.Errorf("%x: %x", s, Encode(got))
	}
	return true
}

// Promise 12.2: programs made by chance, sound or not, come back from their bytes; spoilt bytes say what a second reading says.
func TestDecodeByChance(t *testing.T) {
	r := rand.New(rand.NewSource(14))
	still, none := 0, 0
	for range 3000 {
		p := chanceProg(r)
		before := bare(p)
		s := Encode(p)
		if !reflect.DeepEqual(bare(p), before) {
			t.Fatalf("changed: %#v", p)
		}
		decodes(t, s, p)
		if !alike(t, s) {
			t.Fatalf("%x", s)
		}
		for range 20 {
			if alike(t, spoilt(r, s)) {
				still++
			} else {
				none++
			}
		}
		if t.Failed() {
			t.FailNow()
		}
	}
	if still < 1000 || none < 1000 {
		t.Error("too few of one kind", still, none)
	}
}

// Promise 12.2: bytes made by chance.
func TestDecodeBytesByChance(t *testing.T) {
	r := rand.New(rand.NewSource(15))
	said := 0
	for range 200000 {
		s := make([]byte, r.Intn(24))
		for i := range s {
			s[i] = byte(r.Intn(3))
			if r.Intn(40) == 0 {
				s[i] = byte(r.Intn(256))
			}
		}
		if alike(t, string(s)) {
			said++
		}
	}
	if said < 100 {
		t.Error("too few", said)
	}
}
