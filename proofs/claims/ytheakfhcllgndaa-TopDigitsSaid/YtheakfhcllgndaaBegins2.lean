/- The first questions of stage 2's theorems. -/
import Derived.Test.YtheakfhcllgndaaLives03
import Derived.Test.YtheakfhcllgndaaJoin
namespace Go.Proofs.Ytheakfhcllgndaa
open Go.RowKit
theorem JoinE.ok {l : List (List UInt8)} {e : Ending} (h : JoinE l e) (h1 : l.length ≤ 24) (h2 : ∀ s ∈ l, s.all okc = true) (h3 : (lineOf l).length ≤ 2048) : e = tup (lineOf l) 0 := by
  rcases h with ⟨h, _⟩ | ⟨_, ⟨s, hs, hn⟩, _⟩ | ⟨_, _, ⟨h, _⟩ | ⟨_, he⟩⟩
  · omega
  · rw [h2 s hs] at hn; cases hn
  · omega
  · exact he
theorem begins2 (w : World) : Calls Try.prog 20 #[] w fun e w' => e = .returned (.bool true) ∧ Below w.heap.size w w' := by
  have hs : Sl (w.alloc (.cells #[.string ⟨#[97, 32, 98]⟩, .string ⟨#[]⟩] 9)) (w.heap.size + 1) (some ⟨w.heap.size, 0, none⟩) 2 (fun i => .string ⟨(([[97, 32, 98], []] : List (List UInt8)).getD i []).toArray⟩) := by
    intro _
    refine ⟨_, rfl, by simp, fun i hi => ?_⟩
    rw [addr_add, cell_blk (heap_alloc_new _ _)]
    have : i = 0 ∨ i = 1 := by omega
    rcases this with rfl | rfl <;> rfl
  have hz : ∀ k, k < 2 → (([[97, 32, 98], []] : List (List UInt8)).getD k []).length ≤ 4294967296 := by
    intro k hk
    have : k = 0 ∨ k = 1 := by omega
    rcases this with rfl | rfl <;> decide
  go_enter Try.func20, Try.ntmps20
  go_wp2_with fail
  refine (join_any _ 2 2 (by omega) [[97, 32, 98], []] rfl hz (w.heap.size + 1) _ (by simp) hs).mono ?_
  rintro e w1 ⟨hJ, b1⟩
  obtain rfl := hJ.ok (by decide) (by decide) (by decide)
  have hl : lineOf [[97, 32, 98], []] = [34, 97, 32, 98, 34, 32, 34, 34] := by decide
  rw [hl]
  unfold tup
  have a1 : Below w.heap.size w w1 := ((Below.refl _ _).alloc (Nat.le_refl _) _).trans (b1.mono (by simp))
  clear hs hJ hl b1
  go_wp2_with fail
  refine (unhex_lit ⟨#[48, 48]⟩ ⟨#[0]⟩ _ (by decide) (by right; refine ⟨by decide, ?_⟩; unfold Hx.Good; decide) rfl).mono ?_
  rintro e w2 ⟨rfl, b2⟩
  have a2 := a1.trans (b2.mono a1.size)
  go_wp2_with fail
  go_ret
  exact ⟨rfl, a2⟩
end Go.Proofs.Ytheakfhcllgndaa
