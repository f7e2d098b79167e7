/- What a page that is read on a disk is. -/
import Derived.Test.YtdmlmjmdpmmcgaaPgCells
namespace Go.Proofs.Ytdmlmjmdpmmcgaa
open Go.RowKit
set_option linter.unusedVariables false
set_option maxRecDepth 100000

def readRet (d : Dk) (id : Int) : Ending := .returned (.tuple #[.agg (pgV (readPP d id)).toArray, .int .i64 (readPE d id)])
theorem readRet_bad {d : Dk} {id e : Int} (h : readPE d id = e) (hne : e ≠ 0) : readRet d id = .returned (.tuple #[.agg #[.int .i64 0, .int .i64 0, .int .i64 0, .string ⟨#[]⟩], .int .i64 e]) := by
  unfold readRet readPP
  rw [h, if_neg hne]
  rfl
theorem readRet_ok {d : Dk} {id : Int} (h : readPE d id = 0) : readRet d id = .returned (.tuple #[.agg (pgV (getP (pageS d id.toNat))).toArray, .int .i64 0]) := by
  unfold readRet readPP
  rw [h, if_pos rfl]

end Go.Proofs.Ytdmlmjmdpmmcgaa
