package blobs_test

import (
	"bytes"
	"slices"
	"strings"
	"testing"

	"witness/api"
	"witness/blobs"
	"witness/segment"
)

// TestExamples is the chapter's examples 1 to 3 and 7.
func TestExamples(t *testing.T) {
	d, _, b := fresh(t)
	has(t, "6.5", b)
	refuses(t, "6.3", b, 5, "x", api.ErrKind)
	refuses(t, "6.3", b, 0, "x", api.ErrKind)
	misses(t, "6.4", b, 1, api.Addr{}, api.ErrNone)

	a := addr(1, "x")
	puts(t, "6.3", b, 1, "x", a)
	has(t, "6.5", b, item{a, at(0, 16, 15)})
	unchanged(t, "6.3: it is there", b, func() { puts(t, "6.3: it is there", b, 1, "x", a) })
	gets(t, "6.4", b, 1, a, "x")
	misses(t, "6.4", b, 2, a, api.ErrKind)
	misses(t, "6.4", b, 1, api.Addr{Sum: a.Sum, Nth: 1}, api.ErrNone)
	finds(t, "6.5", b, 1, "x", a)
	lacks(t, "6.5", b, 1, "y")
	lacks(t, "6.5", b, 9, "x")

	puts(t, "6.3", b, 2, "x", addr(2, "x"))
	puts(t, "6.3", b, 1, "", addr(1, ""))
	has(t, "6.5", b, item{a, at(0, 16, 15)}, item{addr(2, "x"), at(0, 31, 15)}, item{addr(1, ""), at(0, 46, 14)})
	gets(t, "6.4", b, 1, addr(1, ""), "")
	if got := d.Pending(); !slices.Equal(got, []int{2, 2, 2, 2}) {
		t.Errorf("6.3: writes to the sectors %v", got)
	}

	for _, n := range []int{995, 996, 1024, 65536, 100000} {
		refuses(t, "6.3: it does not fit into an empty segment", b, 1, strings.Repeat("b", n), api.ErrFull)
		lacks(t, "6.5", b, 1, strings.Repeat("b", n))
	}
	long := strings.Repeat("b", 994)
	puts(t, "6.3: it just fits", b, 1, long, addr(1, long))
	lies(t, "6.3", b, addr(1, long), at(1, 16, 1008))
	gets(t, "6.4", b, 1, addr(1, long), long)
}

func TestPutOfWrongKinds(t *testing.T) {
	d, _, b := fresh(t)
	put(t, b, 1, "x")
	for kind := range 256 {
		if kind >= 1 && kind <= 4 {
			continue
		}
		refuses(t, "6.3", b, byte(kind), "x", api.ErrKind)
		refuses(t, "6.3: the kind is asked first", b, byte(kind), strings.Repeat("x", 2000), api.ErrKind)
		lacks(t, "6.5", b, byte(kind), "x")
		misses(t, "6.4: the blob has another kind", b, byte(kind), addr(1, "x"), api.ErrKind)
		misses(t, "6.4: it is asked first whether the address is there", b, byte(kind), addr(2, "x"), api.ErrNone)
	}
	off(t, d)
	refuses(t, "6.3: the kind is asked ahead of the disk", b, 5, "x", api.ErrKind)
	misses(t, "6.4: the disk is asked ahead of the kind", b, 5, addr(1, "x"), api.ErrPower)
	misses(t, "6.4: the address is asked ahead of the disk", b, 5, addr(2, "x"), api.ErrNone)
}

// TestPutOfEachKind: blobs that differ in their kind alone are others.
func TestPutOfEachKind(t *testing.T) {
	_, _, b := fresh(t)
	var want []item
	used := 16
	for _, body := range []string{"", "x", "\x00", "\x01x", strings.Repeat("long", 40)} {
		for kind := byte(1); kind <= 4; kind++ {
			lacks(t, "6.5", b, kind, body)
			puts(t, "6.3", b, kind, body, addr(kind, body))
			want = append(want, item{addr(kind, body), at(0, used, 14+len(body))})
			used += 14 + len(body)
		}
	}
	has(t, "6.10", b, want...)
	i := 0
	for _, body := range []string{"", "x", "\x00", "\x01x", strings.Repeat("long", 40)} {
		for kind := byte(1); kind <= 4; kind++ {
			a := want[i].addr
			i++
			gets(t, "6.11", b, kind, a, body)
			finds(t, "6.5", b, kind, body, a)
			unchanged(t, "6.3: it is there", b, func() { puts(t, "6.3", b, kind, body, a) })
			for other := byte(0); other < 6; other++ {
				if other != kind {
					misses(t, "6.4", b, other, a, api.ErrKind)
				}
			}
		}
	}
}

// TestTheFrameOfABlob looks at what the log has of it.
func TestTheFrameOfABlob(t *testing.T) {
	_, l, b := fresh(t)
	put(t, b, 3, "body")
	f, e := l.Read(at(0, 16, 18))
	if e != api.OK || f.Kind != 3 || string(f.Body) != "\x00body" {
		t.Errorf("6.3: the frame is %v, %d", f, e)
	}
	answers(t, "6.6", b.Move(addr(3, "body")), api.OK)
	f, e = l.Read(at(0, 34, 18))
	if e != api.OK || f.Kind != 3 || string(f.Body) != "\x00body" {
		t.Errorf("6.6: the frame is %v, %d", f, e)
	}
}

// TestPutByTheLogAlone: a full log, one with a reserve and one without a serial left refuse what is new, and nothing else.
func TestPutByTheLogAlone(t *testing.T) {
	_, l, b := fresh(t)
	for seg := range segments {
		put(t, b, 1, strings.Repeat(string(rune('a'+seg)), 994))
	}
	refuses(t, "6.3: no segment is left", b, 1, "x", api.ErrFull)
	answers(t, "6.6: no segment is left", b.Move(addr(1, strings.Repeat("a", 994))), api.ErrFull)
	unchanged(t, "6.3: what is there needs no room", b, func() {
		puts(t, "6.3", b, 1, strings.Repeat("c", 994), addr(1, strings.Repeat("c", 994)))
	})
	if n, e := b.Drop(2); n != 1 || e != api.OK {
		t.Errorf("6.7: Drop = %d, %d", n, e)
	}
	refuses(t, "6.3: what is free is held", b, 1, "x", api.ErrFull)
	l.Settle()
	l.Reserve(1)
	refuses(t, "6.3: what is free is kept back", b, 1, "x", api.ErrFull)
	l.Reserve(0)
	puts(t, "6.3", b, 1, "x", addr(1, "x"))
	lies(t, "6.3", b, addr(1, "x"), at(2, 16, 15))

	b = open(t, logOf(t, newDisk(t), last))
	refuses(t, "6.3: no serial is left", b, 1, "x", api.ErrLast)
}

// TestReadsThatFail has each way in which a read of a blob that is there fails; Put, Get and Move answer it, and Find finds nothing.
func TestReadsThatFail(t *testing.T) {
	back := func(l *segment.Log) { // as it was when nothing was put
		answers(t, "5.10", l.Rewind(api.Tail{Marks: make([]api.Mark, segments), Current: -1, Held: make([]bool, segments)}), api.OK)
	}
	rots := func(at int) func(l *segment.Log) {
		return func(l *segment.Log) { turn(t, l.Disk(), 0, at) }
	}
	instead := func(f api.Frame) func(l *segment.Log) {
		return func(l *segment.Log) {
			back(l)
			if p, e := l.Append(f); p != at(0, 16, 15) || e != api.OK {
				t.Errorf("5.4: Append = %v, %d", p, e)
			}
		}
	}
	for name, c := range map[string]struct {
		ruin func(l *segment.Log)
		want api.Errno
	}{
		"the head has rotted":        {rots(17), api.ErrCheck},
		"Nth has rotted":             {rots(25), api.ErrCheck},
		"the body has rotted":        {rots(26), api.ErrCheck},
		"the check sum has rotted":   {rots(30), api.ErrCheck},
		"the power is gone":          {func(l *segment.Log) { off(t, l.Disk()) }, api.ErrPower},
		"the log was set back":       {back, api.ErrPlace},
		"another body lies there":    {instead(blob(1, 0, "y")), api.ErrCheck},
		"another Nth lies there":     {instead(blob(1, 1, "x")), api.ErrCheck},
		"another kind lies there":    {instead(blob(2, 0, "x")), api.ErrCheck},
		"a page lies there":          {instead(blob(5, 0, "x")), api.ErrCheck},
		"the frame was written anew": {instead(blob(1, 0, "x")), api.OK},
	} {
		_, l, b := fresh(t)
		a := put(t, b, 1, "x")
		c.ruin(l)
		if c.want == api.OK {
			gets(t, "6.4: "+name, b, 1, a, "x")
			finds(t, "6.5: "+name, b, 1, "x", a)
			puts(t, "6.3: "+name, b, 1, "x", a)
			continue
		}
		misses(t, "6.4: "+name, b, 1, a, c.want)
		misses(t, "6.4: the read goes ahead of the kind: "+name, b, 2, a, c.want)
		refuses(t, "6.3: "+name, b, 1, "x", c.want)
		lacks(t, "6.5: "+name, b, 1, "x")
		unchanged(t, "6.6: "+name, b, func() { answers(t, "6.6: "+name, b.Move(a), c.want) })
		lies(t, "6.5: "+name, b, a, at(0, 16, 15))
		has(t, "6.5: "+name, b, item{a, at(0, 16, 15)})
	}
}

func TestWithoutPower(t *testing.T) {
	d, _, b := fresh(t)
	a, c := put(t, b, 1, "x"), put(t, b, 2, "")
	want := each(b)
	off(t, d)
	misses(t, "6.4", b, 1, a, api.ErrPower)
	refuses(t, "6.3: something new", b, 1, "new", api.ErrPower)
	refuses(t, "6.3: something that is there", b, 1, "x", api.ErrPower)
	refuses(t, "6.3: too long, which is asked ahead of the disk", b, 1, strings.Repeat("b", 995), api.ErrFull)
	lacks(t, "6.5", b, 1, "x")
	answers(t, "6.6", b.Move(c), api.ErrPower)
	has(t, "6.5: Where, Len and Each answer as ever", b, want...)
	absent(t, "6.5", b, addr(1, "new"))
	on(d)
	gets(t, "6.4", b, 1, a, "x")
	has(t, "6.5", b, want...)
}

// TestRefusedWrites lets the power go at each write of a call in turn: nothing has changed.
func TestRefusedWrites(t *testing.T) {
	for name, prepare := range map[string][]int{ // the lengths of what is put first
		"nothing":        nil,
		"a blob":         {1},
		"two blobs":      {100, 5},
		"a full segment": {994},
		"nearly full":    {980},
	} {
		for _, n := range []int{0, 2, 100, 300, 900, 994} {
			for _, move := range []bool{false, true} {
				for fuse := 0; !t.Failed(); fuse++ {
					d, l, b := fresh(t)
					for i, length := range prepare {
						put(t, b, 1, strings.Repeat(string(rune('a'+i)), length))
					}
					body := strings.Repeat("n", n)
					call := func() api.Errno {
						a, e := b.Put(2, []byte(body))
						if e != api.OK && a != (api.Addr{}) {
							t.Errorf("0.2: an address with the error %d", e)
						}
						return e
					}
					if move {
						put(t, b, 2, body)
						call = func() api.Errno { return b.Move(addr(2, body)) }
					}
					before, tail := each(b), l.Tail()
					d.Fuse(fuse)
					e := call()
					if e == api.OK {
						if fuse == 0 {
							t.Errorf("6.3: %s, %d bytes: nothing was written", name, n)
						}
						break
					}
					answers(t, "6.3: "+name, e, api.ErrPower)
					has(t, "6.3: "+name, b, before...)
					if now := l.Tail(); !slices.Equal(now.Marks, tail.Marks) || now.Serial != tail.Serial {
						t.Errorf("6.3: %s, %d bytes, fuse %d: the log is at %v, and was at %v", name, n, fuse, now, tail)
					}
					on(d)
					for i, length := range prepare {
						text := strings.Repeat(string(rune('a'+i)), length)
						gets(t, "6.4: behind the crash", b, 1, addr(1, text), text)
					}
					answers(t, "6.3: behind the crash", call(), api.OK)
					gets(t, "6.4: behind the crash", b, 2, addr(2, body), body)
					has(t, "6.12: behind the crash", open(t, anew(t, l)), each(b)...)
				}
			}
		}
	}
}

// TestEach: in the order of sums, byte by byte without sign, and then of Nth.
func TestEach(t *testing.T) {
	sums := []api.Sum{{0: 255}, {0: 128}, {0: 127}, {31: 255}, {31: 1}, {}, {30: 1}, {0: 128, 31: 1}}
	_, l, _ := fresh(t)
	b := openWith(t, l, func(_ byte, body []byte) api.Sum { return sums[body[0]] })
	var want []item
	for round := range 3 {
		for i := range sums {
			a, e := b.Put(1, []byte{byte(i), byte(round)})
			p, ok := b.Where(a)
			if e != api.OK || !ok || a != (api.Addr{Sum: sums[i], Nth: uint8(round)}) {
				t.Errorf("6.3: %v, %d", a, e)
			}
			want = append(want, item{a, p})
		}
	}
	has(t, "6.5", b, want...)
	got := each(b)
	if got[0].addr != (api.Addr{}) || got[1].addr != nth(1) || got[2].addr != nth(2) || got[len(got)-1].addr != (api.Addr{Sum: api.Sum{0: 255}, Nth: 2}) {
		t.Errorf("6.5: the order is %v", got)
	}
}

// TestEachIsRangedOver as 0.6 says.
func TestEachIsRangedOver(t *testing.T) {
	_, _, b := fresh(t)
	list := b.Each() // made while nothing is there
	var want []item
	used := 16
	for i := range 9 {
		body := string(rune('a' + i))
		puts(t, "6.3", b, 1, body, addr(1, body))
		want = append(want, item{addr(1, body), at(0, used, 15)})
		used += 15
	}
	want = inOrder(want)
	for range 2 {
		var got []item
		for a, p := range list {
			got = append(got, item{a, p})
		}
		if !slices.Equal(got, want) {
			t.Errorf("0.6: it gives %v, want %v", got, want)
		}
	}
	for stop := range want {
		var got []item
		for a, p := range list {
			got = append(got, item{a, p})
			if len(got) > stop {
				break
			}
		}
		if !slices.Equal(got, want[:stop+1]) {
			t.Errorf("0.6: stopped behind %d it gave %v", stop, got)
		}
	}
	inner := 0
	for range list {
		for range list {
			inner++
		}
	}
	if inner != len(want)*len(want) {
		t.Errorf("0.6: one within itself gave %d", inner)
	}
}

// TestChangesWhileRanging: what is given then is free, but it ends and does not panic.
func TestChangesWhileRanging(t *testing.T) {
	for name, change := range map[string]func(b *blobs.Blobs, step int, some api.Addr){
		"Put":  func(b *blobs.Blobs, step int, _ api.Addr) { b.Put(1, []byte{byte(step), 1, 2}) },
		"Move": func(b *blobs.Blobs, _ int, some api.Addr) { b.Move(some) },
		"Drop": func(b *blobs.Blobs, _ int, _ api.Addr) { b.Log().Next(); b.Drop(0) },
		"Undo": func(b *blobs.Blobs, _ int, _ api.Addr) { b.Undo() },
		"Keep": func(b *blobs.Blobs, _ int, _ api.Addr) { b.Keep(nil) },
	} {
		_, _, b := fresh(t)
		answers(t, "6.8", b.Begin(), api.OK)
		for i := range 20 {
			put(t, b, 1, string(rune('a'+i)))
		}
		count := 0
		for range b.Each() {
			change(b, count, addr(1, "a"))
			count++
		}
		if count < 1 || count > 1000 {
			t.Errorf("0.6: %s while ranging: %d", name, count)
		}
		if name == "Keep" && count != 1 {
			t.Errorf("0.6: what was forgotten is given: %d", count)
		}
	}
}

// TestMemory: what is handed in is neither changed nor kept, and what is handed out is nobody else's.
func TestMemory(t *testing.T) {
	_, _, b := fresh(t)
	text := []byte("ahead|body|behind")
	body := text[6:10:len(text)]
	a, e := b.Put(1, body)
	answers(t, "6.3", e, api.OK)
	b.Find(1, body)
	b.Put(1, body)
	b.Put(2, body)
	if string(text) != "ahead|body|behind" {
		t.Errorf("0.4: what was handed in is %q now", text)
	}
	copy(text, bytes.Repeat([]byte{'?'}, len(text)))
	gets(t, "0.4: what was handed in is not kept", b, 1, a, "body")

	one, _ := b.Get(1, a)
	two, _ := b.Get(1, a)
	for _, l := range [][]byte{one, one[:cap(one)]} {
		for i := range l {
			l[i] = '!'
		}
	}
	if string(two) != "body" {
		t.Errorf("0.4: two answers share memory: %q", two)
	}
	gets(t, "0.4: what is handed out is not kept", b, 1, a, "body")
	answers(t, "6.6", b.Move(a), api.OK)
	gets(t, "0.4", b, 1, a, "body")

	list := []api.Addr{a, addr(1, "none"), a, {Nth: 9}}
	given := slices.Clone(list)
	if n := b.Keep(list[:2]); n != 1 || !slices.Equal(list, given) {
		t.Errorf("0.4: Keep = %d, and the list is %v", n, list)
	}
	clear(list)
	gets(t, "0.4", b, 1, a, "body")
	if b.Len() != 1 {
		t.Errorf("0.4: Len = %d", b.Len())
	}
}
