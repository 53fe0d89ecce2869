package cni_test

import (
	"bytes"
	"fmt"
	"math"
	"slices"
	"testing"

	"metronome/api"
	"metronome/cni"
)

// The limits, as the chapter tells them.
const (
	minNodes = 4
	maxNodes = 8
	maxModes = 4
	maxData  = 8
	maxAge   = 255
	maxLife  = 4
	errCni   = api.Errno(120)
)

// Interfaces.

// text is an interface as a text, in which nil and empty lists are the same.
func text(c api.Cni) string {
	return fmt.Sprintf("%v", c)
}

// own is an interface that shares nothing with another one.
func own(c api.Cni) api.Cni {
	c.Out = slices.Clone(c.Out)
	c.In = slices.Clone(c.In)
	for i := range c.In {
		c.In[i].Data = slices.Clone(c.In[i].Data)
	}
	return c
}

// with is an interface in which something is otherwise.
func with(c api.Cni, do func(*api.Cni)) api.Cni {
	c = own(c)
	do(&c)
	return c
}

// atFirst is what New is to answer.
func atFirst(id, n int) api.Cni {
	return api.Cni{Id: id, In: slices.Repeat([]api.Message{{Age: maxAge}}, n), Life: maxLife, Want: -1}
}

// bytesFrom are n bytes that rise from the first one.
func bytesFrom(first byte, n int) []byte {
	b := []byte{}
	for i := range n {
		b = append(b, first+byte(i))
	}
	return b
}

// used is an interface of n nodes in which all has been done.
func used(id, n int) api.Cni {
	c := api.Cni{Id: id, Out: []byte{1, 2, 3}, Life: 2, Want: 1}
	ages := []int{0, 254, 1, 255, 7, 253, 0, 2}
	for i := range n {
		c.In = append(c.In, api.Message{Data: bytesFrom(byte(16*i), i), Age: ages[i]})
	}
	return c
}

// cnis are interfaces that may be: ordinary ones, and those at each edge.
func cnis() []api.Cni {
	var l []api.Cni
	for _, n := range []int{minNodes, 5, maxNodes} {
		for _, id := range []int{0, 1, n - 1} {
			l = append(l, atFirst(id, n), used(id, n))
		}
	}
	c := used(2, 5)
	for _, out := range [][]byte{nil, {}, {9}, {0, 0}, bytesFrom(1, maxData)} {
		l = append(l, with(c, func(c *api.Cni) { c.Out = out }))
	}
	for life := 0; life <= maxLife; life++ {
		l = append(l, with(c, func(c *api.Cni) { c.Life = life }))
	}
	for want := -1; want < maxModes; want++ {
		l = append(l, with(c, func(c *api.Cni) { c.Want = want }))
	}
	for slot := range c.In {
		for _, age := range []int{0, 1, maxAge - 1, maxAge} {
			l = append(l, with(c, func(c *api.Cni) { c.In[slot].Age = age }))
		}
		for _, data := range [][]byte{nil, {}, bytesFrom(200, maxData)} {
			l = append(l, with(c, func(c *api.Cni) { c.In[slot].Data = data }))
		}
	}
	return l
}

// noCni is an interface that may not be.
type noCni struct {
	what string
	c    api.Cni
}

// noCnis are those that may not be, each by one thing, and some by several.
func noCnis() []noCni {
	l := []noCni{{"the zero Cni", api.Cni{}}}
	for _, n := range []int{1, minNodes - 1, maxNodes + 1, 100} {
		l = append(l, noCni{fmt.Sprint(n, " messages"), atFirst(0, n)})
	}
	l = append(l, noCni{"empty In", api.Cni{In: []api.Message{}, Want: -1}})
	for _, n := range []int{minNodes, maxNodes} {
		for _, id := range []int{math.MinInt, -1, n, n + 1, math.MaxInt} {
			l = append(l, noCni{fmt.Sprint("Id ", id, " of ", n), atFirst(id, n)})
		}
	}
	c := used(1, 4)
	add := func(what string, do func(*api.Cni)) {
		l = append(l, noCni{what, with(c, do)})
	}
	for _, n := range []int{maxData + 1, 100} {
		add(fmt.Sprint("Out of ", n), func(c *api.Cni) { c.Out = make([]byte, n) })
	}
	for slot := range c.In {
		add(fmt.Sprint("Data too long in ", slot), func(c *api.Cni) { c.In[slot].Data = make([]byte, maxData+1) })
		for _, age := range []int{math.MinInt, -1, maxAge + 1, math.MaxInt} {
			add(fmt.Sprint("Age ", age, " in ", slot), func(c *api.Cni) { c.In[slot].Age = age })
		}
	}
	for _, life := range []int{math.MinInt, -1, maxLife + 1, math.MaxInt} {
		add(fmt.Sprint("Life ", life), func(c *api.Cni) { c.Life = life })
	}
	for _, want := range []int{math.MinInt, -2, maxModes, math.MaxInt} {
		add(fmt.Sprint("Want ", want), func(c *api.Cni) { c.Want = want })
	}
	add("all of it", func(c *api.Cni) {
		*c = api.Cni{Id: -1, Out: make([]byte, 9), In: []api.Message{{Data: make([]byte, 9), Age: -1}}, Life: -1, Want: -2}
	})
	return l
}

// mayBe tells what the chapter says of Check.
func mayBe(c api.Cni) bool {
	if len(c.In) < minNodes || len(c.In) > maxNodes || c.Id < 0 || c.Id > len(c.In)-1 || len(c.Out) > maxData {
		return false
	}
	for _, m := range c.In {
		if len(m.Data) > maxData || m.Age < 0 || m.Age > maxAge {
			return false
		}
	}
	return c.Life >= 0 && c.Life <= maxLife && c.Want >= -1 && c.Want <= maxModes-1
}

// wantCni asks for an interface and an error, and for no interface beside an error.
func wantCni(t *testing.T, what string, c api.Cni, e api.Errno, want api.Cni, wantE api.Errno) {
	t.Helper()
	if wantE != api.OK {
		want = api.Cni{}
		if c.Out != nil || c.In != nil {
			t.Errorf("%s: lists beside an error: %+v", what, c)
		}
	}
	if e != wantE || text(c) != text(want) {
		t.Errorf("%s: %+v, %d; want %+v, %d", what, c, e, want, wantE)
	}
}

// wantWrite and those that follow ask for what a call is to answer.
func wantWrite(t *testing.T, c api.Cni, data []byte, want api.Cni, wantE api.Errno) {
	t.Helper()
	got, e := cni.Write(c, data)
	wantCni(t, fmt.Sprintf("Write(%+v, %v)", c, data), got, e, want, wantE)
}

func wantBeat(t *testing.T, c api.Cni, want api.Cni, wantE api.Errno) {
	t.Helper()
	got, e := cni.Beat(c)
	wantCni(t, fmt.Sprintf("Beat(%+v)", c), got, e, want, wantE)
}

func wantAsk(t *testing.T, c api.Cni, mode int, want api.Cni, wantE api.Errno) {
	t.Helper()
	got, e := cni.Ask(c, mode)
	wantCni(t, fmt.Sprintf("Ask(%+v, %d)", c, mode), got, e, want, wantE)
}

func wantSend(t *testing.T, c api.Cni, long int, want []byte, wantE api.Errno) {
	t.Helper()
	got, e := cni.Send(c, long)
	if e != wantE || !bytes.Equal(got, want) || e != api.OK && got != nil {
		t.Errorf("Send(%+v, %d): %v, %d; want %v, %d", c, long, got, e, want, wantE)
	}
}

func wantDeliver(t *testing.T, c api.Cni, slot int, data []byte, want api.Cni, wantE api.Errno) {
	t.Helper()
	got, e := cni.Deliver(c, slot, data)
	wantCni(t, fmt.Sprintf("Deliver(%+v, %d, %v)", c, slot, data), got, e, want, wantE)
}

func wantRound(t *testing.T, c api.Cni, want api.Cni, wantE api.Errno) {
	t.Helper()
	got, e := cni.Round(c)
	wantCni(t, fmt.Sprintf("Round(%+v)", c), got, e, want, wantE)
}

func wantFresh(t *testing.T, c api.Cni, age int, want ...int) {
	t.Helper()
	if l := slices.Collect(cni.Fresh(c, age)); !slices.Equal(l, want) {
		t.Errorf("Fresh(%+v, %d): %v; want %v", c, age, l, want)
	}
}

// P12.1: New

func TestNewByHand(t *testing.T) {
	c, e := cni.New(2, 5)
	if e != api.OK || c.Id != 2 || len(c.Out) != 0 || len(c.In) != 5 || c.Life != 4 || c.Want != -1 {
		t.Fatalf("New(2, 5): %+v, %d", c, e)
	}
	for slot, m := range c.In {
		if len(m.Data) != 0 || m.Age != 255 {
			t.Errorf("New(2, 5): in %d %+v", slot, m)
		}
	}
}

func TestNewAtAllEdges(t *testing.T) {
	numbers := []int{math.MinInt, -100, -2, -1, 0, 1, 2, 3, 4, 5, 6, 7, 8, 9, 10, 100, math.MaxInt}
	for _, n := range numbers {
		for _, id := range numbers {
			want := errCni
			if n >= 4 && n <= 8 && id >= 0 && id <= n-1 {
				want = api.OK
			}
			first := api.Cni{}
			if want == api.OK {
				first = atFirst(id, n)
			}
			c, e := cni.New(id, n)
			wantCni(t, fmt.Sprintf("New(%d, %d)", id, n), c, e, first, want)
			if e == api.OK && cni.Check(c) != api.OK {
				t.Errorf("New(%d, %d) may not be: %+v", id, n, c)
			}
		}
	}
}

// P12.1: Check

func TestCheckTakesWhatMayBe(t *testing.T) {
	for _, c := range cnis() {
		if e := cni.Check(c); e != api.OK {
			t.Errorf("Check(%+v): %d", c, e)
		}
	}
}

func TestCheckRefusesWhatMayNotBe(t *testing.T) {
	for _, x := range noCnis() {
		if e := cni.Check(x.c); e != errCni {
			t.Errorf("%s: Check(%+v): %d", x.what, x.c, e)
		}
	}
}

func TestCheckFieldByField(t *testing.T) {
	for n := 0; n <= maxNodes+2; n++ {
		for id := -2; id <= n+2; id++ {
			wantCheck(t, atFirst(id, n))
		}
	}
	c := used(3, 6)
	for n := 0; n <= maxData+2; n++ {
		wantCheck(t, with(c, func(c *api.Cni) { c.Out = make([]byte, n) }))
		for slot := range c.In {
			wantCheck(t, with(c, func(c *api.Cni) { c.In[slot].Data = make([]byte, n) }))
		}
	}
	for k := -3; k <= maxAge+3; k++ {
		wantCheck(t, with(c, func(c *api.Cni) { c.Life = k }))
		wantCheck(t, with(c, func(c *api.Cni) { c.Want = k }))
		for slot := range c.In {
			wantCheck(t, with(c, func(c *api.Cni) { c.In[slot].Age = k }))
		}
	}
}

// wantCheck asks that Check says what the chapter says.
func wantCheck(t *testing.T, c api.Cni) {
	t.Helper()
	want := errCni
	if mayBe(c) {
		want = api.OK
	}
	if e := cni.Check(c); e != want {
		t.Errorf("Check(%+v): %d; want %d", c, e, want)
	}
}

// P12.1: what all other calls answer of one that may not be

func TestAllCallsRefuseWhatMayNotBe(t *testing.T) {
	for _, x := range noCnis() {
		// Whatever is beside it: who may not be is named first.
		for _, n := range []int{math.MinInt, -2, -1, 0, 1, 3, 4, 8, 9, math.MaxInt} {
			wantAsk(t, x.c, n, api.Cni{}, errCni)
			wantSend(t, x.c, n, nil, errCni)
			for _, data := range [][]byte{nil, {}, {1}, make([]byte, 8), make([]byte, 9)} {
				wantWrite(t, x.c, data, api.Cni{}, errCni)
				wantDeliver(t, x.c, n, data, api.Cni{}, errCni)
			}
			wantFresh(t, x.c, n)
		}
		wantBeat(t, x.c, api.Cni{}, errCni)
		wantRound(t, x.c, api.Cni{}, errCni)
		if cni.Alive(x.c) {
			t.Errorf("%s: Alive(%+v)", x.what, x.c)
		}
		if !cni.Same(x.c, own(x.c)) {
			t.Errorf("%s: Same of twice %+v", x.what, x.c)
		}
	}
}

// P12.2: Write

func TestWrite(t *testing.T) {
	for _, c := range cnis() {
		for _, data := range [][]byte{nil, {}, {0}, {5, 6}, bytesFrom(100, 7), bytesFrom(100, maxData)} {
			wantWrite(t, c, data, with(c, func(c *api.Cni) { c.Out = data }), api.OK)
		}
		for _, n := range []int{maxData + 1, maxData + 2, 256, 264} {
			wantWrite(t, c, make([]byte, n), api.Cni{}, api.ErrLong)
		}
	}
}

// P12.2: Beat

func TestBeat(t *testing.T) {
	for _, c := range cnis() {
		for life := 0; life <= maxLife; life++ {
			c.Life = life
			wantBeat(t, c, with(c, func(c *api.Cni) { c.Life = maxLife }), api.OK)
		}
	}
}

// P12.2: Ask

func TestAsk(t *testing.T) {
	for _, c := range cnis() {
		for mode := -1; mode <= maxModes-1; mode++ {
			wantAsk(t, c, mode, with(c, func(c *api.Cni) { c.Want = mode }), api.OK)
		}
		for _, mode := range []int{math.MinInt, -100, -2, maxModes, maxModes + 1, 256, math.MaxInt} {
			wantAsk(t, c, mode, api.Cni{}, api.ErrArg)
		}
	}
}

// P12.2: Send

func TestSendByHand(t *testing.T) {
	c := with(atFirst(0, 4), func(c *api.Cni) { c.Out = []byte{7, 8, 9} })
	for long, want := range [][]byte{{}, {7}, {7, 8}, {7, 8, 9}, {7, 8, 9, 0}, {7, 8, 9, 0, 0}, {7, 8, 9, 0, 0, 0}, {7, 8, 9, 0, 0, 0, 0}, {7, 8, 9, 0, 0, 0, 0, 0}} {
		wantSend(t, c, long, want, api.OK)
	}
	c.Life = 1
	wantSend(t, c, 2, []byte{7, 8}, api.OK)
	c.Life = 0
	wantSend(t, c, 0, nil, api.OK)
	wantSend(t, c, 2, []byte{0, 0}, api.OK)
	wantSend(t, c, 8, []byte{0, 0, 0, 0, 0, 0, 0, 0}, api.OK)
}

func TestSend(t *testing.T) {
	for _, c := range cnis() {
		for long := 0; long <= maxData; long++ {
			want := make([]byte, long)
			for i := range want {
				if i < len(c.Out) && c.Life != 0 {
					want[i] = c.Out[i]
				}
			}
			wantSend(t, c, long, want, api.OK)
		}
		for _, long := range []int{math.MinInt, -100, -1, maxData + 1, 100, 256, math.MaxInt} {
			wantSend(t, c, long, nil, api.ErrArg)
		}
	}
}

// P12.2: Deliver

func TestDeliver(t *testing.T) {
	for _, c := range cnis() {
		for slot := range c.In {
			for _, data := range [][]byte{nil, {}, {0}, {5, 6}, bytesFrom(100, 7), bytesFrom(100, maxData)} {
				wantDeliver(t, c, slot, data, with(c, func(c *api.Cni) { c.In[slot] = api.Message{Data: data} }), api.OK)
			}
			wantDeliver(t, c, slot, make([]byte, maxData+1), api.Cni{}, api.ErrLong)
			wantDeliver(t, c, slot, make([]byte, 256), api.Cni{}, api.ErrLong)
		}
		n := len(c.In)
		for _, slot := range []int{math.MinInt, -100, -1, n, n + 1, 256, math.MaxInt} {
			for _, data := range [][]byte{nil, {1, 2}, make([]byte, maxData), make([]byte, maxData+1)} {
				wantDeliver(t, c, slot, data, api.Cni{}, api.ErrArg)
			}
		}
	}
}

// P12.2: Round

func TestRoundByHand(t *testing.T) {
	c := api.Cni{Id: 1, Out: []byte{4}, In: messages(0, 253, 254, 255, 100), Life: 1, Want: 2}
	d := api.Cni{Id: 1, Out: []byte{4}, In: messages(1, 254, 255, 255, 101), Life: 0, Want: 2}
	wantRound(t, c, d, api.OK)
	wantRound(t, d, api.Cni{Id: 1, Out: []byte{4}, In: messages(2, 255, 255, 255, 102), Life: 0, Want: 2}, api.OK)
}

// messages are one of each age, with data by which they are told apart.
func messages(ages ...int) []api.Message {
	var l []api.Message
	for i, age := range ages {
		l = append(l, api.Message{Data: bytesFrom(byte(10*i), i), Age: age})
	}
	return l
}

func TestRound(t *testing.T) {
	for _, c := range cnis() {
		want := own(c)
		for i := range want.In {
			if want.In[i].Age < maxAge {
				want.In[i].Age++
			}
		}
		if want.Life > 0 {
			want.Life--
		}
		wantRound(t, c, want, api.OK)
	}
}

func TestRoundOfEachAge(t *testing.T) {
	for age := 0; age <= maxAge; age++ {
		for slot := range maxNodes {
			c := with(used(0, maxNodes), func(c *api.Cni) { c.In[slot].Age = age })
			d, e := cni.Round(c)
			if e != api.OK || d.In[slot].Age != min(age+1, maxAge) {
				t.Errorf("Round of Age %d in %d: %+v, %d", age, slot, d, e)
			}
		}
	}
}

// P12.3: Fresh

func TestFreshByHand(t *testing.T) {
	c := used(0, 8) // of Age 0, 254, 1, 255, 7, 253, 0, 2
	wantFresh(t, c, math.MinInt)
	wantFresh(t, c, -1)
	wantFresh(t, c, 0, 0, 6)
	wantFresh(t, c, 1, 0, 2, 6)
	wantFresh(t, c, 2, 0, 2, 6, 7)
	wantFresh(t, c, 6, 0, 2, 6, 7)
	wantFresh(t, c, 7, 0, 2, 4, 6, 7)
	wantFresh(t, c, 252, 0, 2, 4, 6, 7)
	wantFresh(t, c, 253, 0, 2, 4, 5, 6, 7)
	wantFresh(t, c, 254, 0, 1, 2, 4, 5, 6, 7)
	wantFresh(t, c, 255, 0, 1, 2, 4, 5, 6, 7)
	wantFresh(t, c, 256, 0, 1, 2, 4, 5, 6, 7)
	wantFresh(t, c, math.MaxInt, 0, 1, 2, 4, 5, 6, 7)
	c.Life = 0
	wantFresh(t, c, 0, 0, 6)
	for _, n := range []int{minNodes, maxNodes} {
		wantFresh(t, atFirst(0, n), math.MaxInt)
	}
}

func TestFreshOfEachAge(t *testing.T) {
	for age := -2; age <= maxAge+2; age++ {
		for old := 0; old <= maxAge; old++ {
			c := with(atFirst(0, 4), func(c *api.Cni) { c.In[2].Age = old })
			if old <= age && old < maxAge {
				wantFresh(t, c, age, 2)
			} else {
				wantFresh(t, c, age)
			}
		}
	}
}

func TestFreshAskedAgain(t *testing.T) {
	seq := cni.Fresh(used(0, 8), 1)
	for range 3 {
		if l := slices.Collect(seq); !slices.Equal(l, []int{0, 2, 6}) {
			t.Errorf("Fresh again: %v", l)
		}
	}
	var pairs []int
	for a := range seq {
		for b := range seq {
			pairs = append(pairs, 10*a+b)
		}
	}
	if !slices.Equal(pairs, []int{0, 2, 6, 20, 22, 26, 60, 62, 66}) {
		t.Errorf("Fresh within Fresh: %v", pairs)
	}
}

func TestFreshLeftEarly(t *testing.T) {
	seq := cni.Fresh(used(0, 8), 1)
	for most := 1; most <= 3; most++ {
		var l []int
		seq(func(slot int) bool {
			l = append(l, slot)
			return len(l) < most
		})
		if !slices.Equal(l, []int{0, 2, 6}[:most]) {
			t.Errorf("Fresh left behind %d: %v", most, l)
		}
	}
	if l := slices.Collect(seq); !slices.Equal(l, []int{0, 2, 6}) {
		t.Errorf("Fresh behind one that was left early: %v", l)
	}
}

// P12.3: Alive

func TestAlive(t *testing.T) {
	for _, c := range cnis() {
		for life := -1; life <= maxLife+1; life++ {
			c.Life = life
			if is := cni.Alive(c); is != (life >= 1 && life <= maxLife) {
				t.Errorf("Alive(%+v): %t", c, is)
			}
		}
	}
}

// P12.3: Same

func TestSameFieldByField(t *testing.T) {
	changes := []struct {
		what string
		do   func(*api.Cni)
	}{
		{"Id", func(c *api.Cni) { c.Id++ }},
		{"Out longer", func(c *api.Cni) { c.Out = append(c.Out, 0) }},
		{"Out shorter", func(c *api.Cni) { c.Out = c.Out[:2] }},
		{"Out's first", func(c *api.Cni) { c.Out[0]++ }},
		{"Out's last", func(c *api.Cni) { c.Out[2]++ }},
		{"Out nil", func(c *api.Cni) { c.Out = nil }},
		{"In longer", func(c *api.Cni) { c.In = append(c.In, api.Message{}) }},
		{"In shorter", func(c *api.Cni) { c.In = c.In[:4] }},
		{"In nil", func(c *api.Cni) { c.In = nil }},
		{"In turned round", func(c *api.Cni) { slices.Reverse(c.In) }},
		{"the first Age", func(c *api.Cni) { c.In[0].Age++ }},
		{"the last Age", func(c *api.Cni) { c.In[4].Age-- }},
		{"the first Data", func(c *api.Cni) { c.In[0].Data = []byte{0} }},
		{"the last Data's last", func(c *api.Cni) { c.In[4].Data[3]++ }},
		{"the last Data shorter", func(c *api.Cni) { c.In[4].Data = c.In[4].Data[:3] }},
		{"Data nil", func(c *api.Cni) { c.In[2].Data = nil }},
		{"Life", func(c *api.Cni) { c.Life-- }},
		{"Want", func(c *api.Cni) { c.Want = -1 }},
	}
	c := used(1, 5)
	for _, x := range changes {
		d := with(c, x.do)
		if cni.Same(c, d) || cni.Same(d, c) {
			t.Errorf("%s: Same(%+v, %+v)", x.what, c, d)
		}
		if !cni.Same(d, own(d)) {
			t.Errorf("%s: not Same: twice %+v", x.what, d)
		}
	}
}

func TestSameOfAll(t *testing.T) {
	all := cnis()
	for _, x := range noCnis() {
		all = append(all, x.c)
	}
	for _, a := range all {
		for _, b := range all {
			if is := cni.Same(a, b); is != (text(a) == text(b)) {
				t.Errorf("Same(%+v, %+v): %t", a, b, is)
			}
		}
	}
}

func TestEmptyListsAndNilAreTheSame(t *testing.T) {
	a := atFirst(1, 4)
	b := with(a, func(c *api.Cni) {
		c.Out = []byte{}
		for i := range c.In {
			c.In[i].Data = make([]byte, 0, 5)
		}
	})
	if !cni.Same(a, b) || !cni.Same(b, a) {
		t.Errorf("not Same: %+v, %+v", a, b)
	}
	if !cni.Same(api.Cni{}, api.Cni{Out: []byte{}, In: []api.Message{}}) {
		t.Error("not Same: the zero Cni, and one of empty lists")
	}
	for long := range maxData + 1 {
		wantSend(t, a, long, make([]byte, long), api.OK)
		wantSend(t, b, long, make([]byte, long), api.OK)
	}
	for _, data := range [][]byte{nil, {}} {
		c, e := cni.Deliver(a, 2, data)
		d, f := cni.Deliver(b, 2, data)
		if e != api.OK || f != api.OK || !cni.Same(c, d) {
			t.Errorf("Deliver: %+v, %d; %+v, %d", c, e, d, f)
		}
		c, e = cni.Write(a, data)
		d, f = cni.Write(b, data)
		if e != api.OK || f != api.OK || !cni.Same(c, a) || !cni.Same(d, a) {
			t.Errorf("Write: %+v, %d; %+v, %d", c, e, d, f)
		}
	}
}
