// Package faces holds the layers to what the chapters list: a face that is missing or of another form does not build.
package faces

import (
	"testing"

	"railpoint/agent"
	"railpoint/api"
	"railpoint/base"
	"railpoint/change"
	"railpoint/class"
	"railpoint/cube"
	"railpoint/cubes"
	"railpoint/drive"
	"railpoint/field"
	"railpoint/judge"
	"railpoint/load"
	"railpoint/mix"
	"railpoint/net"
	"railpoint/plan"
	"railpoint/rule"
	"railpoint/run"
	"railpoint/table"
	"railpoint/text"
	"railpoint/topo"
	"railpoint/wire"
	"railpoint/wish"
)

var (
	_ func(api.Cube) error                           = cube.Check
	_ func(api.Cube, int) bool                       = cube.Has
	_ func(api.Cube) (string, error)                 = cube.Print
	_ func(string) (api.Cube, error)                 = cube.Parse
	_ func(api.Cube, api.Cube) (api.Cube, bool)      = cube.Meet
	_ func(api.Cube, api.Cube) bool                  = cube.Inside
	_ func(api.Cube) int                             = cube.Count
	_ func(api.Cube) int                             = cube.First
	_ func([]api.Cube) error                         = cubes.Check
	_ func([]api.Cube, int) bool                     = cubes.Has
	_ func(api.Cube, []api.Cube) ([]api.Cube, error) = cubes.Minus
	_ func([]api.Cube) ([]api.Cube, error)           = cubes.Apart
	_ func([]api.Cube) (int, error)                  = cubes.Count
	_ func([]api.Cube, []api.Cube) (bool, error)     = cubes.Same
	_ func([]api.Cube) ([]int, error)                = cubes.Headers
)

var (
	_ func(api.Rule) error                               = rule.Check
	_ func(api.Rule) (string, error)                     = rule.Print
	_ func(string) (api.Rule, error)                     = rule.Parse
	_ func(api.Rule, int) (int, error)                   = rule.Apply
	_ func(api.Table) error                              = rule.Table
	_ func(api.Table, int) (int, error)                  = rule.Lookup
	_ func(api.Table) ([]int, error)                     = rule.Shadowed
	_ func(api.Table, bool, api.Rule) (api.Table, error) = table.Do
	_ func(api.Table, []api.Op) (api.Table, error)       = table.All
	_ func(api.Table, api.Table) ([]api.Op, error)       = table.Diff
	_ func(api.Table, api.Table) (bool, error)           = table.Same
	_ func(api.Table, api.Table) (int, error)            = table.Room
)

var (
	_ func(api.Topo) error                                = topo.Check
	_ func(api.Topo, api.Spot) (api.Spot, error)          = topo.Peer
	_ func(api.Topo, api.Spot) (string, error)            = topo.At
	_ func(api.Topo, string) (api.Spot, error)            = topo.Where
	_ func(api.Topo, int) ([]int, error)                  = topo.Near
	_ func(api.Topo, int, int) (int, error)               = topo.Far
	_ func(api.Net) error                                 = net.Check
	_ func(api.Net, api.Spot, int) (api.Spot, int, error) = net.Step
	_ func(api.Net, string, int) (api.Fate, error)        = net.Send
	_ func(api.Net, api.Spot, int) (api.Fate, error)      = net.From
	_ func(api.Table) ([][]int, error)                    = class.Of
	_ func(api.Net) ([][]int, error)                      = class.All
	_ func([][]int, int) (int, error)                     = class.Rep
	_ func(api.Net, int) ([]int, error)                   = class.Path
)

var (
	_ func(api.Topo, []api.Wish) error                             = wish.Check
	_ func(api.Wish) (string, error)                               = wish.Print
	_ func(string) (api.Wish, error)                               = wish.Parse
	_ func(api.Wish, string, api.Fate) bool                        = wish.Fits
	_ func(api.Net, []api.Wish) (api.Proof, error)                 = wish.Holds
	_ func(api.Net, []api.Op) error                                = change.Check
	_ func(api.Net, []api.Op) (api.Net, error)                     = change.Apply
	_ func(api.Net, api.Net) ([]api.Op, error)                     = change.Diff
	_ func([]api.Op) []api.Op                                      = change.Turn
	_ func(api.Net, api.Net) (bool, error)                         = change.Same
	_ func(api.Net, []api.Op, string, int) ([]api.Fate, error)     = mix.Seen
	_ func(api.Net, []api.Op, []api.Wish) (api.Proof, error)       = mix.Safe
	_ func([]api.Op) []int                                         = mix.Touched
	_ func(api.Net, api.Net, []api.Wish) ([]api.Round, error)      = plan.Plan
	_ func(api.Net, api.Net, []api.Wish, []api.Round) (int, error) = plan.Verify
	_ func(api.Net, api.Net, []api.Wish) ([]api.Round, error)      = plan.Least
	_ func(api.Net, []api.Wish) (string, error)                    = text.Print
	_ func(string) (api.Net, []api.Wish, int, error)               = text.Parse
)

var (
	_ func(api.Msg) (string, error)                  = wire.Encode
	_ func(string) (api.Msg, error)                  = wire.Decode
	_ func(string) ([]api.Msg, string, error)        = wire.Cut
	_ func(int, api.Table) (*agent.Agent, error)     = agent.New
	_ func(*agent.Agent, api.Msg) ([]api.Msg, error) = (*agent.Agent).Hear
	_ func(*agent.Agent) ([]api.Msg, error)          = (*agent.Agent).Work
	_ func(*agent.Agent) api.Table                   = (*agent.Agent).Table
	_ func(*agent.Agent, int) int                    = (*agent.Agent).Heard
	_ func(*agent.Agent) int                         = (*agent.Agent).Ready
	_ func(*agent.Agent) []int                       = (*agent.Agent).Done
	_ func([]api.Round, int) (*drive.Drive, error)   = drive.New
	_ func(*drive.Drive) ([]api.Msg, error)          = (*drive.Drive).Next
	_ func(*drive.Drive, api.Msg) error              = (*drive.Drive).Hear
	_ func(*drive.Drive) []api.Msg                   = (*drive.Drive).Tick
	_ func(*drive.Drive) []int                       = (*drive.Drive).Left
	_ func(*drive.Drive) int                         = (*drive.Drive).Round
	_ func(*drive.Drive) bool                        = (*drive.Drive).Done
)

var (
	_ func(api.Net, []api.Round, int) (*field.Field, error)    = field.New
	_ func(*field.Field, api.Event) error                      = (*field.Field).Do
	_ func(*field.Field) api.Net                               = (*field.Field).Net
	_ func(*field.Field) int                                   = (*field.Field).Under
	_ func(*field.Field) int                                   = (*field.Field).Packets
	_ func(*field.Field) []api.Fate                            = (*field.Field).Fates
	_ func(*field.Field) []string                              = (*field.Field).Froms
	_ func(*field.Field) bool                                  = (*field.Field).Done
	_ func(*field.Field) int                                   = (*field.Field).Rounds
	_ func(api.Net, []api.Round, api.Net) (int, error)         = judge.Rounds
	_ func([]api.Wish, []string, []api.Fate) (int, int, error) = judge.Fates
	_ func(api.Topo, []api.Fate) ([]int, error)                = judge.Links
	_ func(api.Net) ([]int, error)                             = load.Links
	_ func(api.Net) ([][]int, error)                           = load.Rules
	_ func(api.Net) ([]api.Op, error)                          = load.Unused
	_ func(api.Net) ([]int, error)                             = load.Pairs
	_ func(api.Topo, int) (string, error)                      = base.For
	_ func(api.Topo) (api.Net, error)                          = base.Net
	_ func(api.Net, string, api.Cube) (api.Net, error)         = base.Block
	_ func(string) string                                      = run.Run
)

// TestFaces has nothing left to ask once the lines above build.
func TestFaces(t *testing.T) {}
