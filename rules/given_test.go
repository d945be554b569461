// Package rules tests what holds for the whole project: what was given, its ways and its language.
package rules

import (
	"crypto/sha256"
	"encoding/hex"
	"os"
	"testing"

	"haywain/api"
	"haywain/certify"
	"haywain/change"
	"haywain/console"
	"haywain/disk"
	"haywain/engine"
	"haywain/log"
	"haywain/queue"
	"haywain/row"
	"haywain/span"
	"haywain/store"
	"haywain/versions"
	"haywain/view"
)

// The faces as the chapters have them: another signature is not built.
var (
	_ func(string) bool                             = row.Name
	_ func(string) string                           = row.Table
	_ func(string) string                           = row.Queue
	_ func(string, int) string                      = row.Message
	_ func(string) api.Span                         = row.Messages
	_ func(string) error                            = row.Check
	_ func(api.Queue) (string, error)               = row.QueueText
	_ func(string) (api.Queue, error)               = row.ParseQueue
	_ func(api.Message) (string, error)             = row.MessageText
	_ func(int, string) (api.Message, error)        = row.ParseMessage
	_ func(string) api.Span                         = span.Point
	_ func() api.Span                               = span.All
	_ func(api.Span, string) bool                   = span.Has
	_ func(api.Span) bool                           = span.Empty
	_ func(api.Span, api.Span) api.Span             = span.Both
	_ func(api.Span, api.Span) bool                 = span.Meet
	_ func([]api.Span, string) bool                 = span.Any
	_ func(api.Change) error                        = change.Check
	_ func([]api.Change, api.Change) []api.Change   = change.Put
	_ func([]api.Change, string) (api.Change, bool) = change.Find
	_ func(api.Change) (string, error)              = change.Bytes
	_ func(string) (api.Change, error)              = change.Parse

	_ func([]api.Row) *versions.Versions                   = versions.New
	_ func(*versions.Versions) int                         = (*versions.Versions).Now
	_ func(*versions.Versions, []api.Change) (int, error)  = (*versions.Versions).Commit
	_ func(*versions.Versions, string, int) (string, bool) = (*versions.Versions).Read
	_ func(*versions.Versions, api.Span, int) []api.Row    = (*versions.Versions).Scan
	_ func(*versions.Versions, int)                        = (*versions.Versions).Vacuum
	_ func(*versions.Versions) int                         = (*versions.Versions).Count
	_ func(*certify.History, int, []api.Change)            = (*certify.History).Note
	_ func(*certify.History, []api.Span, int) bool         = (*certify.History).Clear
	_ func(*certify.History, int)                          = (*certify.History).Forget
	_ func(*certify.History) int                           = (*certify.History).Count

	_ func(*versions.Versions) *view.View                = view.New
	_ func(*view.View) int                               = (*view.View).Since
	_ func(*view.View) []api.Change                      = (*view.View).Changes
	_ func(*view.View) []api.Span                        = (*view.View).Reads
	_ func(*view.View, string) (string, bool, error)     = (*view.View).Get
	_ func(*view.View, string, string) error             = (*view.View).Put
	_ func(*view.View, string) error                     = (*view.View).Delete
	_ func(*view.View, api.Span, int) ([]api.Row, error) = (*view.View).Scan
	_ func(*view.View) []api.Change                      = (*view.View).Mark
	_ func(*view.View, []api.Change)                     = (*view.View).Back

	_ func(int) (*disk.Disk, error)                                     = disk.New
	_ func(*disk.Disk) int                                              = (*disk.Disk).Sectors
	_ func(*disk.Disk, int) (string, error)                             = (*disk.Disk).Read
	_ func(*disk.Disk, int, string) error                               = (*disk.Disk).Write
	_ func(*disk.Disk) error                                            = (*disk.Disk).Flush
	_ func(*disk.Disk, int)                                             = (*disk.Disk).Arm
	_ func(*disk.Disk) bool                                             = (*disk.Disk).Down
	_ func(*disk.Disk, uint64)                                          = (*disk.Disk).Restart
	_ func(*disk.Disk, int, int, int) (*log.Log, [][]api.Change, error) = log.Open
	_ func(*log.Log) int                                                = (*log.Log).Room
	_ func(*log.Log) int                                                = (*log.Log).Next
	_ func(*log.Log, []api.Change) error                                = (*log.Log).Add
	_ func(*disk.Disk) error                                            = store.Format
	_ func(*disk.Disk) (*store.Store, error)                            = store.Open
	_ func(*store.Store) []api.Row                                      = (*store.Store).Rows
	_ func(*store.Store) int                                            = (*store.Store).Room
	_ func(*store.Store, []api.Change) error                            = (*store.Store).Commit
	_ func(*store.Store) error                                          = (*store.Store).Checkpoint

	_ func(*view.View, string) (api.Queue, error)             = queue.Find
	_ func(*view.View, string, int, string) error             = queue.Create
	_ func(*view.View, string, string, int) (int, error)      = queue.Send
	_ func(*view.View, string, int, int) (api.Message, error) = queue.Receive
	_ func(*view.View, string, int, int) error                = queue.Ack
	_ func(*view.View, string, int, int, int) error           = queue.Wait
	_ func(*view.View, string) ([]api.Message, error)         = queue.Messages

	_ func(*disk.Disk) (*engine.Engine, error)      = engine.New
	_ func(*engine.Engine, int) error               = (*engine.Engine).Begin
	_ func(*engine.Engine, int) (*view.View, error) = (*engine.Engine).Deed
	_ func(*engine.Engine, int) (int, error)        = (*engine.Engine).Commit
	_ func(*engine.Engine, int) error               = (*engine.Engine).Abort
	_ func(*engine.Engine)                          = (*engine.Engine).Vacuum
	_ func(*engine.Engine) error                    = (*engine.Engine).Checkpoint
	_ func(*engine.Engine) int                      = (*engine.Engine).Now
	_ func(*engine.Engine) int                      = (*engine.Engine).Kept
	_ func(*engine.Engine) []api.Row                = (*engine.Engine).Rows

	_ func([]string) ([]string, error) = console.Run
)

// apiDigest of package api's file as it was given.
const apiDigest = "93b10503ed5060e8690dfe65da1f0a6fc78545afea48d0622819bf154f72d069"

func TestPackageAPIIsAsGiven(t *testing.T) {
	l, err := os.ReadDir("../api")
	if err != nil || len(l) != 1 || l[0].Name() != "api.go" {
		t.Fatalf("package api has other files than the given one: %v, %v", l, err)
	}
	text, err := os.ReadFile("../api/api.go")
	if err != nil {
		t.Fatal(err)
	}
	if sum := sha256.Sum256(text); hex.EncodeToString(sum[:]) != apiDigest {
		t.Error("package api isn't as it was given")
	}
}

func TestLimits(t *testing.T) {
	for _, c := range []struct {
		name      string
		got, want int
	}{
		{"MaxName", api.MaxName, 6}, {"MaxVal", api.MaxVal, 40},
		{"MaxChanges", api.MaxChanges, 12}, {"MaxReads", api.MaxReads, 40},
		{"MaxRows", api.MaxRows, 40},
		{"MaxNumber", api.MaxNumber, 999999}, {"MaxTries", api.MaxTries, 9}, {"MaxTime", api.MaxTime, 1000000},
		{"Sector", api.Sector, 96}, {"Sectors", api.Sectors, 200},
		{"Sessions", api.Sessions, 4},
		{"MaxLines", api.MaxLines, 80}, {"MaxLine", api.MaxLine, 200},
	} {
		if c.got != c.want {
			t.Errorf("Z3: %s is %d, not %d", c.name, c.got, c.want)
		}
	}
}
