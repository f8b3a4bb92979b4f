/- Contract of the joiner's In, all ways. -/
import Derived.Test.YtdndhidinbmpdaaBf
import Derived.Test.YtdndhidinbmpdaaBg
import Derived.Test.YtdndhidinbmpdaaBh
import Derived.Test.YtdndhidinbmpdaaBi
import Derived.Test.YtdndhidinbmpdaaBj
import Derived.Test.YtdndhidinbmpdaaBl
import Derived.Test.YtdndhidinbmpdaaBm
import Derived.Test.YtdndhidinbmpdaaBn
namespace Go.Proofs.Ytdndhidinbmpdaa
open Go.RowKit
set_option linter.unusedVariables false

theorem In_in (g m : Nat) (o : Opn) (H : List UInt8) (v : Value) (f : Fra) (p q : Option Addr) (cp cq : Nat) (w : World) (h : JAt w g m o H v) (hI : FrIn w f p q cq) :
    Calls Try.prog 15 #[.pointer (some ⟨g, 0, none⟩), .agg #[.int .i64 f.k, .int .i64 f.fl, .int .i64 f.st, .slice p f.X.length cp, .int .i64 f.pad, .int .u32 f.code, .int .i64 f.last, .int .i64 f.inc, .int .i64 f.dep, .bool f.only, .int .i64 f.wt, .slice q f.Y.length cq]] w fun e w' => InAs w g m v (inJ m o H f) e w' := by
  cases hfo : follB o f with
  | false => exact In_not g m o H v f p q cp cq w h hI hfo
  | true =>
    by_cases hk1 : f.k = 1
    · by_cases hl : (m : Int) - (H.length : Int) < (f.X.length : Int)
      · exact In_long1 g m o H v f p q cp cq w h hI hfo hk1 hl
      · cases hd : doneB f.fl with
        | false => exact In_more1 g m o H v f p q cp cq w h hI hfo hk1 hl hd
        | true => exact In_done1 g m o H v f p q cp cq w h hI hfo hk1 hl hd
    · by_cases hk9 : f.k = 9
      · by_cases hl : (m : Int) - (H.length : Int) < (f.X.length : Int)
        · exact In_long9 g m o H v f p q cp cq w h hI hfo hk9 hl
        · cases hd : doneB f.fl with
          | false => exact In_more9 g m o H v f p q cp cq w h hI hfo hk9 hl hd
          | true => exact In_done9 g m o H v f p q cp cq w h hI hfo hk9 hl hd
      · exact In_other g m o H v f p q cp cq w h hI hfo hk1 hk9
end Go.Proofs.Ytdndhidinbmpdaa
