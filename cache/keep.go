package cache

import (
	"maps"

	"palimpsest/api"
)

// use finds a page for its bytes to be read or changed, and brings it in if it is not kept.
func (c *Cache) use(number int64, at, n int) (*page, api.Errno) {
	switch {
	case c.none():
		return nil, api.ErrNil
	case !c.may(number) || !c.within(at, n):
		return nil, api.ErrArg
	}
	if _, no := c.store.Size(c.name); no != api.OK {
		return nil, no
	}
	p, no := c.find(number)
	if no == api.OK {
		c.counts.Hits++
	} else {
		p, no = c.bringIn(number)
	}
	if no != api.OK {
		return nil, no
	}
	c.tickets++
	p.ticket = c.tickets
	c.kept.moved(p)
	return p, api.OK
}

// bringIn keeps a page that is not kept.
func (c *Cache) bringIn(number int64) (*page, api.Errno) {
	if no := c.makeRoom(); no != api.OK {
		return nil, no
	}
	b, no := c.load(number)
	if no != api.OK {
		return nil, no
	}
	c.counts.Loads++
	p := c.known(number)
	p.bytes = b
	c.kept.add(p)
	return p, api.OK
}

// makeRoom lets a page go, if there is no room for one more.
func (c *Cache) makeRoom() api.Errno {
	if c.kept.Len() < c.room {
		return api.OK
	}
	p := c.kept.first()
	if no := eachDirty(c.writeBack, p); no != api.OK {
		return no
	}
	c.letGo(p)
	return api.OK
}

// load reads a page's bytes from the file; those beyond its end are noughts.
func (c *Cache) load(number int64) ([]byte, api.Errno) {
	b := make([]byte, 1<<c.bits)
	there, no := c.store.Read(c.name, c.place(number), len(b))
	// Of a page that begins beyond the file's end there are none to read.
	if no != api.OK && no != api.ErrRange {
		return nil, no
	}
	copy(b, there)
	return b, api.OK
}

// place is where a page lies in the file.
func (c *Cache) place(number int64) int64 { return number << c.bits }

// known is the page of that number, with something to know of it from now on.
func (c *Cache) known(number int64) *page {
	if c.pages[number] == nil {
		c.pages[number] = newPage(number)
	}
	return c.pages[number]
}

// letGo keeps a page no more. What is dirty of it is lost.
func (c *Cache) letGo(p *page) {
	c.kept.drop(p)
	p.bytes, p.dirty = nil, false
	c.settle(p)
}

// writeBack writes a dirty page to the file, behind all that it waits for.
func (c *Cache) writeBack(p *page) api.Errno {
	if no := eachDirty(c.writeBack, rising(maps.Values(p.waits))...); no != api.OK {
		return no
	}
	// None of them is dirty by now, so those that it still waits for are pending; behind a flush it waits for none.
	if len(p.waits) > 0 {
		if no := c.flush(); no != api.OK {
			return no
		}
	}
	if no := c.store.Write(c.name, c.place(p.number), p.bytes); no != api.OK {
		return no
	}
	c.counts.Backs++
	if !p.pending {
		p.pending = true
		c.pending = append(c.pending, p)
	}
	p.dirty = false
	c.kept.moved(p)
	return api.OK
}

// flush lets the file's bytes last; then no page is pending.
func (c *Cache) flush() api.Errno {
	if no := c.store.Flush(c.name); no != api.OK {
		return no
	}
	c.counts.Flushes++
	for _, p := range c.pending {
		p.pending = false
		c.settle(p)
	}
	c.pending = nil
	return api.OK
}

// settle lets nobody wait for a page any more that is neither dirty nor pending.
func (c *Cache) settle(p *page) {
	if !p.unsettled() {
		for _, waiter := range p.waiters {
			delete(waiter.waits, p.number)
			c.forget(waiter)
		}
		clear(p.waiters)
	}
	c.forget(p)
}

// forget lets go of what there is to know of a page, if that is nothing.
func (c *Cache) forget(p *page) {
	if !p.kept() && !p.pending && len(p.waits) == 0 {
		delete(c.pages, p.number)
	}
}
