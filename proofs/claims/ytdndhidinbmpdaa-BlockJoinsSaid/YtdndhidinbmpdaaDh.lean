/- Contract of the document's In, all ways. -/
import Derived.Test.YtdndhidinbmpdaaDa
import Derived.Test.YtdndhidinbmpdaaDb
import Derived.Test.YtdndhidinbmpdaaDc
import Derived.Test.YtdndhidinbmpdaaDd
import Derived.Test.YtdndhidinbmpdaaDe
import Derived.Test.YtdndhidinbmpdaaDf
import Derived.Test.YtdndhidinbmpdaaDg
namespace Go.Proofs.Ytdndhidinbmpdaa
open Go.RowKit
set_option linter.unusedVariables false

theorem rIn_in (g m : Nat) (o : Opn) (H : List UInt8) (v : Value) (f : Fra) (p q : Option Addr) (cp cq : Nat) (w : World) (h : RJ w g m o H v) (hI : FrIn w f p q cq) (hfl : 0 ≤ f.fl) (hst : f.k = 1 → 1 ≤ f.st) :
    Calls Try.prog 16 #[.pointer (some ⟨g, 0, none⟩), .agg #[.int .i64 f.k, .int .i64 f.fl, .int .i64 f.st, .slice p f.X.length cp, .int .i64 f.pad, .int .u32 f.code, .int .i64 f.last, .int .i64 f.inc, .int .i64 f.dep, .bool f.only, .int .i64 f.wt, .slice q f.Y.length cq]] w fun e w' => RInAs w g m v (inJ m o H f) e w' := by
  cases o with
  | none =>
    obtain ⟨rfl, rfl⟩ := h.nil rfl
    by_cases hk9 : f.k = 9
    · exact rIn_none9 g m f p q cp cq w h hI hk9
    · by_cases hk1 : f.k = 1
      · by_cases hl : (m : Int) < (f.X.length : Int)
        · exact rIn_long1 g m f p q cp cq w h hI hfl (hst hk1) hk1 hl
        · cases hd : doneB f.fl with
          | false => exact rIn_more1 g m f p q cp cq w h hI hfl (hst hk1) hk1 hl hd
          | true => exact rIn_done1 g m f p q cp cq w h hI hfl (hst hk1) hk1 hl hd
      · exact rIn_other g m f p q cp cq w h hI hk1 hk9
  | some x =>
    obtain ⟨en, s⟩ := x
    by_cases hk9 : f.k = 9
    · by_cases hs : f.st = s
      · by_cases hl : (m : Int) - (H.length : Int) < (f.X.length : Int)
        · exact rIn_long9 g m en s H v f p q cp cq w h hI hfl hk9 hs hl
        · cases hd : doneB f.fl with
          | false => exact rIn_more9 g m en s H v f p q cp cq w h hI hfl hk9 hs hl hd
          | true => exact rIn_done9 g m en s H v f p q cp cq w h hI hfl hk9 hs hl hd
      · exact rIn_stream g m en s H v f p q cp cq w h hI hk9 hs
    · exact rIn_some g m en s H v f p q cp cq w h hI hk9
end Go.Proofs.Ytdndhidinbmpdaa
