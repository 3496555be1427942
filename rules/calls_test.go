package rules

import (
	"bytes"
	"go/ast"
	"go/printer"
	"strings"
	"testing"
)

// signature is a call as the chapters write it.
func signature(s source, f *ast.FuncDecl) string {
	var out bytes.Buffer
	bare := *f
	bare.Doc, bare.Body = nil, nil
	if err := printer.Fprint(&out, s.fset, &bare); err != nil {
		return err.Error()
	}
	return out.String()
}

// Each layer has the calls that its chapter lists.
func TestCalls(t *testing.T) {
	want := map[string]bool{}
	for _, block := range strings.Split(strings.TrimSpace(calls), "\n\n") {
		layer, list, _ := strings.Cut(block, ":\n")
		for _, call := range strings.Split(list, "\n") {
			want[layer+": "+call] = true
		}
	}
	for _, s := range sources(t) {
		for _, d := range s.file.Decls {
			if f, ok := d.(*ast.FuncDecl); ok {
				delete(want, layers[s.layer]+": "+signature(s, f))
			}
		}
	}
	for call := range want {
		t.Errorf("%s is not there", call)
	}
}

// calls are those that the chapters list, layer by layer.
const calls = `
octet:
func Num(b []byte, at, n int) (uint64, api.Errno)
func Bytes(v uint64, n int) ([]byte, api.Errno)
func Set(b []byte, at int, v uint64, n int) ([]byte, api.Errno)
func Cut(b []byte, at, n int) ([]byte, api.Errno)
func Pad(b []byte, to int) ([]byte, api.Errno)
func Hex(b []byte) string
func Unhex(s string) ([]byte, int, api.Errno)
func Addr(s string) (uint32, int, api.Errno)
func AddrText(a uint32) string

sums:
func Crc(b []byte) uint32
func Stamp(b []byte) ([]byte, api.Errno)
func Stamped(b []byte) bool
func Net(b []byte) uint16
func Swap(sum, old, is uint16) uint16

serial:
func Add(bits int, a uint32, n int) (uint32, api.Errno)
func Ahead(bits int, a, b uint32) (int, api.Errno)
func Less(bits int, a, b uint32) (bool, api.Errno)
func Sort(bits int, from uint32, l []uint32) ([]uint32, api.Errno)
func Span(bits int, l []uint32) ([][2]uint32, api.Errno)

gaps:
func New(first uint32) *Tracker
func (t *Tracker) Add(tsn uint32) api.Errno
func (t *Tracker) Cum() uint32
func (t *Tracker) Top() uint32
func (t *Tracker) Has(tsn uint32) bool
func (t *Tracker) Blocks() [][2]uint16
func (t *Tracker) Dups() []uint32
func (t *Tracker) Fork() *Tracker

hash:
func Sum(b []byte) [32]byte
func Mac(key, b []byte) [32]byte
func Same(a, b []byte) bool
func New() *Hash
func (h *Hash) Write(b []byte) api.Errno
func (h *Hash) Sum() [32]byte
func (h *Hash) Fork() *Hash

cookie:
func New(secret []byte) *Keys
func (k *Keys) Turn(secret []byte) api.Errno
func (k *Keys) Seal(c api.Cookie) ([]byte, api.Errno)
func (k *Keys) Open(b []byte, now int) (api.Cookie, api.Errno)
func (k *Keys) Fork() *Keys

ring:
func New(n int) (*Ring, api.Errno)
func (r *Ring) Fill(b []byte) api.Errno
func (r *Ring) Take() ([]byte, api.Errno)
func (r *Ring) Give() api.Errno
func (r *Ring) Owner(i int) (int, api.Errno)
func (r *Ring) Count() (int, int, int, int)
func (r *Ring) Fork() *Ring

ether:
func Put(x api.Ether) ([]byte, api.Errno)
func Take(b []byte) (api.Ether, api.Errno)
func For(x api.Ether, mac uint64) bool
func PutArp(a api.Arp) ([]byte, api.Errno)
func TakeArp(b []byte) (api.Arp, api.Errno)
func Mac(s string) (uint64, int, api.Errno)
func MacText(mac uint64) (string, api.Errno)

arp:
func New(mac uint64, ip uint32) (*Cache, api.Errno)
func (c *Cache) Send(to uint32, body []byte, now int) ([][]byte, api.Errno)
func (c *Cache) Take(a api.Arp, now int) ([][]byte, api.Errno)
func (c *Cache) Tick(now int) ([][]byte, api.Errno)
func (c *Cache) Table() []api.Neighbour
func (c *Cache) Lost() int
func (c *Cache) Fork() *Cache

ip:
func Put(p api.Packet) ([]byte, api.Errno)
func Take(b []byte) (api.Packet, api.Errno)
func Split(p api.Packet, mtu int) ([]api.Packet, api.Errno)
func PutIcmp(x api.Icmp) []byte
func TakeIcmp(b []byte) (api.Icmp, api.Errno)
func Echo(p api.Packet) (api.Packet, bool)
func Refuse(p api.Packet, code, mtu int) (api.Packet, api.Errno)

reasm:
func New() *Pool
func (r *Pool) Add(p api.Packet, now int) (api.Packet, bool, api.Errno)
func (r *Pool) Tick(now int) (int, api.Errno)
func (r *Pool) Count() (int, int, int)
func (r *Pool) Fork() *Pool

chunk:
func Put(h api.Head, l []api.Chunk) ([]byte, api.Errno)
func Take(b []byte) (api.Head, []api.Chunk, api.Errno)
func Check(c api.Chunk) api.Errno
func Size(c api.Chunk) int
func Stops(kind uint8) bool
func Tells(kind uint8) bool
func Name(kind uint8) string

streams:
func New(ins int) (*Streams, api.Errno)
func (s *Streams) Add(c api.Chunk) ([]api.Msg, api.Errno)
func (s *Streams) Held() (int, int)
func (s *Streams) Next(stream int) (uint16, api.Errno)
func (s *Streams) Fork() *Streams

outq:
func New(first uint32, outs, size int) (*Queue, api.Errno)
func (q *Queue) Push(m api.Msg) api.Errno
func (q *Queue) Send(way, room, most int) ([]api.Chunk, api.Errno)
func (q *Queue) Sack(c api.Chunk) (api.Acked, api.Errno)
func (q *Queue) Expire(way int) (int, api.Errno)
func (q *Queue) Flight(way int) int
func (q *Queue) Left() (int, int)
func (q *Queue) Cum() uint32
func (q *Queue) Fork() *Queue

path:
func New(mtu int) (*Path, api.Errno)
func (p *Path) Stands() api.Way
func (p *Path) Sample(ticks int) api.Errno
func (p *Path) Grow(bytes int, moved bool, flight int) api.Errno
func (p *Path) Fast() api.Errno
func (p *Path) Late() (bool, api.Errno)
func (p *Path) Fault() (bool, api.Errno)
func (p *Path) Good() api.Errno
func (p *Path) Beat(nonce uint64, now int) api.Errno
func (p *Path) Answer(nonce uint64, now int) (bool, api.Errno)
func (p *Path) Fork() *Path

assoc:
func Open(s api.Side, now int, draw uint64) (*Assoc, api.Errno)
func Listen(s api.Side, secret []byte) (*Listener, api.Errno)
func (l *Listener) Turn(secret []byte) api.Errno
func (l *Listener) Init(b []byte, now int, draw uint64) ([]byte, api.Errno)
func (l *Listener) Echo(b []byte, w, now int) (*Assoc, api.Errno)
func (l *Listener) Twice(a *Assoc, b []byte, w, now int) bool
func (a *Assoc) Take(b []byte, w, now int) api.Errno
func (a *Assoc) Tick(now int, draw uint64) api.Errno
func (a *Assoc) Next() (int, bool)
func (a *Assoc) Pull() []api.Send
func (a *Assoc) Send(m api.Msg) api.Errno
func (a *Assoc) Recv() (api.Msg, api.Errno)
func (a *Assoc) Notice() (api.Notice, api.Errno)
func (a *Assoc) Shutdown() api.Errno
func (a *Assoc) Abort() api.Errno
func (a *Assoc) Stands() api.State
func (a *Assoc) Way(i int) (api.Way, api.Errno)
func (a *Assoc) Tags() (uint32, uint32)
func (a *Assoc) Left() (int, int, int)
func (a *Assoc) Peer() uint16
func (a *Assoc) Replace()

host:
func New(c api.Config, secret []byte) (*Host, api.Errno)
func (h *Host) Frame(i int, b []byte) api.Errno
func (h *Host) Out(i int) ([]byte, api.Errno)
func (h *Host) Step(now int, draw uint64) api.Errno
func (h *Host) Bind(port uint16) (int, api.Errno)
func (h *Host) Listen(id int) api.Errno
func (h *Host) Connect(id int, port uint16, draw uint64) api.Errno
func (h *Host) Accept(id int) (int, api.Errno)
func (h *Host) Send(id int, m api.Msg) api.Errno
func (h *Host) Recv(id int) (api.Msg, api.Errno)
func (h *Host) Notice(id int) (api.Notice, api.Errno)
func (h *Host) Shutdown(id int) api.Errno
func (h *Host) Abort(id int) api.Errno
func (h *Host) Close(id int) api.Errno
func (h *Host) State(id int) (api.State, api.Errno)
func (h *Host) Tags(id int) (uint32, uint32, api.Errno)
func (h *Host) Count() api.Counts
func (h *Host) Near(i int) []api.Neighbour
func (h *Host) Used() (int, int, int)

world:
func New(mtu, ring, streams int, seed uint64) (*World, api.Errno)
func (w *World) Do(a api.Act) (int, api.Errno)
func (w *World) Host(k int) *host.Host
func (w *World) Trace() []api.Mark
func (w *World) Now() int
func (w *World) Air(n int) (int, int, []byte)

judge:
func Judge(l []api.Mark) (int, api.Errno)
func Owed(l []api.Mark, host int, own, peer uint32) (int, bool)
`
