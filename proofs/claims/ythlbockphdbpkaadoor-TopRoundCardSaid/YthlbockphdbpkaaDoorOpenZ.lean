/- How many zones and links a source that is an argument may have. -/
import Derived.Test.YthlbockphdbpkaaDoorOpenS
import Derived.SizedLaws
namespace Go.Proofs.YthlbockphdbpkaaDoor
open Go.RowKit Go.ChangeShapes Go.WideShapes Go.Joins Go.Deep
set_option maxRecDepth 100000
section
variable {H : Type} {enc : TypeId × Value → H} {w : World} {base : Nat} {spare : Nat → Bool} {held : Bool}
theorem slice_weight {t e : TypeId} {fuel n c M : Nat} {A : Option Addr} {cs : List Value} {x : DataW H × List MemPlace} (ht : Tryd.prog.underlying t = some (.slice e)) (h : DataW.trod enc Tryd.prog w base spare held fuel t cs = some x) (hcs : cs = [.slice A n c]) (hM : ∀ y ∈ x.1.weights Tryd.prog t, y ≤ M) : n * Tryd.prog.bytesOf e ≤ M := by
  rcases open_slice ht h with ⟨rfl, _⟩ | ⟨a, len, cap, m, k, D, Pl, rfl, _, hl, hm, hmm, rfl, hi⟩
  · injection hcs with h1 _
    injection h1 with _ h2 _
    subst h2
    rw [Nat.zero_mul]
    exact Nat.zero_le _
  · injection hcs with h1 _
    injection h1 with _ h2 _
    subst h2
    have := hM _ (by
      unfold DataW.weights
      simp only [ht]
      exact List.mem_cons_self)
    rw [List.length_map, List.length_map, List.length_range, List.length_range] at this
    exact Nat.le_trans (Nat.mul_le_mul_right _ (Nat.le_add_right _ _)) this
theorem bytes_zone : Tryd.prog.bytesOf 37 = 40 := by kernel_rfl
theorem bytes_link : Tryd.prog.bytesOf 56 = 32 := by kernel_rfl
theorem source_weight {d : DataW H} {p : List MemPlace} {s : Sd} {M : Nat} (h : DataW.Trod enc Tryd.prog w base spare held 26 s.val d p) (hM : ∀ y ∈ d.weights Tryd.prog 26, y ≤ M) : s.zs.length * 40 ≤ M ∧ s.ls.length * 32 ≤ M := by
  obtain ⟨fuel, hf⟩ := h
  obtain ⟨y0, y1, y2, n, hx, _, h0, h1, h2⟩ := trod_struct3 Tryd.underlying26 hf
  simp only [Value.cells, cells_rules1, cells_zones1, cells_links1] at h0 h1 h2
  injection hx with hd _
  subst hd
  have hw : ∀ y, (y ∈ y1.1.weights Tryd.prog 23 ∨ y ∈ y2.1.weights Tryd.prog 24) → y ≤ M := fun y hy => hM y (by
    unfold DataW.weights
    simp only [Tryd.underlying26]
    show y ∈ DataW.weightsEach Tryd.prog [22, 23, 24] [y0.1, y1.1, y2.1]
    unfold DataW.weightsEach
    refine List.mem_append.2 (.inr ?_)
    unfold DataW.weightsEach
    rcases hy with hy | hy
    · exact List.mem_append.2 (.inl hy)
    · refine List.mem_append.2 (.inr ?_)
      unfold DataW.weightsEach
      exact List.mem_append.2 (.inl hy))
  have q1 := slice_weight Tryd.underlying23 h1 (by rfl) (fun y hy => hw y (.inl hy))
  have q2 := slice_weight Tryd.underlying24 h2 (by rfl) (fun y hy => hw y (.inr hy))
  rw [bytes_zone] at q1
  rw [bytes_link] at q2
  exact ⟨q1, q2⟩
theorem names_room {d : Sd} (h : d.zs.length * 40 ≤ 140737488351232 ∧ d.ls.length * 32 ≤ 140737488351232) : (d.zs.length + d.ls.length) * 16 ≤ 140737488355328 := by omega
end
end Go.Proofs.YthlbockphdbpkaaDoor
