/- The first questions of the tops of stage 7; objects made one behind the other. (By program: genb7.py.) -/
import Derived.Test.YthlbockphdbpkaaDoorLo
import Derived.Test.YthlbockphdbpkaaDoorVf
import Derived.Test.YthlbockphdbpkaaDoorVn
namespace Go.Proofs.YthlbockphdbpkaaDoor
open Go.RowKit Go.Maps
set_option maxRecDepth 100000
/-- Objects made one behind the other. -/
def allocs (w : World) (L : List Obj) : World := L.foldl World.alloc w
theorem allocs_size : ∀ (L : List Obj) (w : World), (allocs w L).heap.size = w.heap.size + L.length
  | [], _ => rfl
  | o :: L, w => by
    show (allocs (w.alloc o) L).heap.size = _
    rw [allocs_size L, World.size_alloc, List.length_cons]
    omega
theorem allocs_below : ∀ (L : List Obj) (w : World), Below w.heap.size w (allocs w L)
  | [], _ => Below.refl _ _
  | o :: L, w => by
    show Below _ w (allocs (w.alloc o) L)
    have h := allocs_below L (w.alloc o)
    exact (box_below w o).trans (h.mono (by simp))
theorem allocs_at : ∀ (L : List Obj) (w : World) (i : Nat) (o : Obj), L[i]? = some o → (allocs w L).heap[w.heap.size + i]? = some o
  | [], _, _, _, h => by cases h
  | p :: L, w, 0, o, h => by
    obtain rfl : p = o := by simpa using h
    show (allocs (w.alloc p) L).heap[w.heap.size]? = _
    rw [(allocs_below L (w.alloc p)).block w.heap.size (by simp)]
    exact heap_alloc_new w p
  | p :: L, w, i + 1, o, h => by
    show (allocs (w.alloc p) L).heap[w.heap.size + (i + 1)]? = _
    have := allocs_at L (w.alloc p) i o (by simpa using h)
    rw [World.size_alloc] at this
    rw [show w.heap.size + (i + 1) = w.heap.size + 1 + i by omega]
    exact this
theorem Bx.blk {W : World} {g : Nat} {cs : Array Value} {t : TypeId} (h : W.heap[g]? = some (.cells cs t (0, 0))) : Bx W g cs.toList :=
  ⟨lt_blk h, fun i v hv => by rw [cell_blk h, ← Array.getElem?_toList]; exact hv⟩
def es7 : List Er := [⟨0, 0, 0, ⟨#[]⟩, ⟨#[120]⟩, false, ⟨0, 0, 0, 0, 0, 0, 0⟩⟩]
def ks7 : List Lk := [⟨⟨#[65]⟩, ⟨#[66]⟩⟩]
def s7 (n : Nat) : Sd := ⟨none, 0, [], some ⟨n + 1, 0, none⟩, 1, [⟨⟨#[65]⟩, some ⟨n, 0, none⟩, 1, es7⟩], some ⟨n + 1 + 1, 0, none⟩, 1, ks7⟩
theorem s7_Z (n : Nat) : (s7 n).Z = [⟨#[65]⟩] := rfl
theorem zn7_A : Ld.zn [⟨#[65]⟩] ks7 ⟨#[65]⟩ = (0, 0) := (zn_end (n := 0) (y := ⟨#[65]⟩) (by kernel_rfl) (by kernel_rfl)).trans (by kernel_rfl)
theorem zn7_B : Ld.zn [⟨#[65]⟩] ks7 ⟨#[66]⟩ = (0, 0) := (zn_end (n := 1) (y := ⟨#[65]⟩) (by kernel_rfl) (by kernel_rfl)).trans (by kernel_rfl)
theorem mem_one {α : Type} {P : α → Prop} {a : α} (h : P a) : ∀ x ∈ [a], P x := fun x hx => by
  rw [List.mem_singleton.1 hx]
  exact h
theorem all7 (n : Nat) : Vd.all (s7 n) = [] := all_nil.2 ⟨(by decide +kernel : ([⟨#[65]⟩, ⟨#[66]⟩] : List ByteArray).Nodup), mem_one (mem_one (fun h => absurd h (show ¬ (0 : Int) = 2 by decide))), mem_one (by kernel_rfl), mem_one (by
  show (Ld.zn [⟨#[65]⟩] ks7 ⟨#[65]⟩).2 = 0
  rw [zn7_A])⟩
theorem right7 (n : Nat) : So.right (s7 n).src = true := by kernel_rfl
theorem fits7 (n : Nat) : (s7 n).fits :=
  ⟨(by decide : (0 : Nat) ≤ _), (by decide : (1 : Nat) ≤ _), (by decide : (1 : Nat) ≤ _), (fun _ h => by cases h), mem_one ⟨(by decide : (1 : Nat) ≤ 9223372036854775807), (by decide : (1 : Nat) ≤ 9223372036854775807), mem_one ⟨(by decide : (0 : Nat) ≤ 9223372036854775807), (by decide : (1 : Nat) ≤ 9223372036854775807)⟩⟩, mem_one ⟨(by decide : (1 : Nat) ≤ 9223372036854775807), (by decide : (1 : Nat) ≤ 9223372036854775807)⟩⟩
theorem fok7 (n : Nat) : Fok (s7 n) := ⟨(by decide : (1 + 1 : Nat) ≤ 1000), (by decide : (0 : Nat) ≤ 4096), mem_one (by decide : (1 : Nat) ≤ 4096), fits7 n⟩

theorem b7_start (w : World) : K13 w (s7 w.heap.size) (w.heap.size + 1 + 1 + 1) (allocs w [(.cells #[.int .i64 0, .int .u8 0, .int .i64 0, .string ⟨#[]⟩, .string ⟨#[120]⟩, .bool false, .int .i64 0, .int .i64 0, .int .u8 0, .int .i64 0, .int .i64 0, .int .i64 0, .int .u8 0] 50), (.cells #[.string ⟨#[65]⟩, .slice (some ⟨w.heap.size, 0, none⟩) 1 1] 37), (.cells #[.string ⟨#[65]⟩, .string ⟨#[66]⟩] 56), (.cells #[.slice none 0 0, .slice (some ⟨w.heap.size + 1, 0, none⟩) 1 1, .slice (some ⟨w.heap.size + 1 + 1, 0, none⟩) 1 1] 26)]) := by
  have hb := allocs_below [(.cells #[.int .i64 0, .int .u8 0, .int .i64 0, .string ⟨#[]⟩, .string ⟨#[120]⟩, .bool false, .int .i64 0, .int .i64 0, .int .u8 0, .int .i64 0, .int .i64 0, .int .i64 0, .int .u8 0] 50), (.cells #[.string ⟨#[65]⟩, .slice (some ⟨w.heap.size, 0, none⟩) 1 1] 37), (.cells #[.string ⟨#[65]⟩, .string ⟨#[66]⟩] 56), (.cells #[.slice none 0 0, .slice (some ⟨w.heap.size + 1, 0, none⟩) 1 1, .slice (some ⟨w.heap.size + 1 + 1, 0, none⟩) 1 1] 26)] w
  have h0 := allocs_at [(.cells #[.int .i64 0, .int .u8 0, .int .i64 0, .string ⟨#[]⟩, .string ⟨#[120]⟩, .bool false, .int .i64 0, .int .i64 0, .int .u8 0, .int .i64 0, .int .i64 0, .int .i64 0, .int .u8 0] 50), (.cells #[.string ⟨#[65]⟩, .slice (some ⟨w.heap.size, 0, none⟩) 1 1] 37), (.cells #[.string ⟨#[65]⟩, .string ⟨#[66]⟩] 56), (.cells #[.slice none 0 0, .slice (some ⟨w.heap.size + 1, 0, none⟩) 1 1, .slice (some ⟨w.heap.size + 1 + 1, 0, none⟩) 1 1] 26)] w 0 _ rfl
  have h1 := allocs_at [(.cells #[.int .i64 0, .int .u8 0, .int .i64 0, .string ⟨#[]⟩, .string ⟨#[120]⟩, .bool false, .int .i64 0, .int .i64 0, .int .u8 0, .int .i64 0, .int .i64 0, .int .i64 0, .int .u8 0] 50), (.cells #[.string ⟨#[65]⟩, .slice (some ⟨w.heap.size, 0, none⟩) 1 1] 37), (.cells #[.string ⟨#[65]⟩, .string ⟨#[66]⟩] 56), (.cells #[.slice none 0 0, .slice (some ⟨w.heap.size + 1, 0, none⟩) 1 1, .slice (some ⟨w.heap.size + 1 + 1, 0, none⟩) 1 1] 26)] w 1 _ rfl
  have h2 := allocs_at [(.cells #[.int .i64 0, .int .u8 0, .int .i64 0, .string ⟨#[]⟩, .string ⟨#[120]⟩, .bool false, .int .i64 0, .int .i64 0, .int .u8 0, .int .i64 0, .int .i64 0, .int .i64 0, .int .u8 0] 50), (.cells #[.string ⟨#[65]⟩, .slice (some ⟨w.heap.size, 0, none⟩) 1 1] 37), (.cells #[.string ⟨#[65]⟩, .string ⟨#[66]⟩] 56), (.cells #[.slice none 0 0, .slice (some ⟨w.heap.size + 1, 0, none⟩) 1 1, .slice (some ⟨w.heap.size + 1 + 1, 0, none⟩) 1 1] 26)] w 2 _ rfl
  have h3 := allocs_at [(.cells #[.int .i64 0, .int .u8 0, .int .i64 0, .string ⟨#[]⟩, .string ⟨#[120]⟩, .bool false, .int .i64 0, .int .i64 0, .int .u8 0, .int .i64 0, .int .i64 0, .int .i64 0, .int .u8 0] 50), (.cells #[.string ⟨#[65]⟩, .slice (some ⟨w.heap.size, 0, none⟩) 1 1] 37), (.cells #[.string ⟨#[65]⟩, .string ⟨#[66]⟩] 56), (.cells #[.slice none 0 0, .slice (some ⟨w.heap.size + 1, 0, none⟩) 1 1, .slice (some ⟨w.heap.size + 1 + 1, 0, none⟩) 1 1] 26)] w 3 _ rfl
  exact ⟨Bx.blk h3, ⟨⟨Rk.nil, rk_lit h1, mem_one (rk_lit h0), rk_lit h2⟩, (by decide : (1 + 1 : Nat) ≤ 1000), mem_one ⟨(by decide : (1 : Nat) ≤ 9223372036854775807), (by decide : (1 : Nat) ≤ 9223372036854775807)⟩, mem_one (by decide : (1 : Nat) ≤ 9223372036854775807)⟩, hb⟩
set_option maxHeartbeats 4000000 in
theorem begins7_true (w : World) (hE : Ev w) : Calls Tryd.prog 13 #[] w fun e w' => e = .returned (.bool true) ∧ Below w.heap.size w w' := by
  have H0 : Hid (K13 w (s7 w.heap.size) (w.heap.size + 1 + 1 + 1) ((((w.alloc (.cells #[.int .i64 0, .int .u8 0, .int .i64 0, .string ⟨#[]⟩, .string ⟨#[120]⟩, .bool false, .int .i64 0, .int .i64 0, .int .u8 0, .int .i64 0, .int .i64 0, .int .i64 0, .int .u8 0] 50)).alloc (.cells #[.string ⟨#[65]⟩, .slice (some ⟨w.heap.size, 0, none⟩) 1 1] 37)).alloc (.cells #[.string ⟨#[65]⟩, .string ⟨#[66]⟩] 56)).alloc (.cells #[.slice none 0 0, .slice (some ⟨w.heap.size + 1, 0, none⟩) 1 1, .slice (some ⟨w.heap.size + 1 + 1, 0, none⟩) 1 1] 26))) := Lib.hid (b7_start w)
  have HE : Hid (Ev ((((w.alloc (.cells #[.int .i64 0, .int .u8 0, .int .i64 0, .string ⟨#[]⟩, .string ⟨#[120]⟩, .bool false, .int .i64 0, .int .i64 0, .int .u8 0, .int .i64 0, .int .i64 0, .int .i64 0, .int .u8 0] 50)).alloc (.cells #[.string ⟨#[65]⟩, .slice (some ⟨w.heap.size, 0, none⟩) 1 1] 37)).alloc (.cells #[.string ⟨#[65]⟩, .string ⟨#[66]⟩] 56)).alloc (.cells #[.slice none 0 0, .slice (some ⟨w.heap.size + 1, 0, none⟩) 1 1, .slice (some ⟨w.heap.size + 1 + 1, 0, none⟩) 1 1] 26))) := Lib.hid (hE.below (allocs_below [(.cells #[.int .i64 0, .int .u8 0, .int .i64 0, .string ⟨#[]⟩, .string ⟨#[120]⟩, .bool false, .int .i64 0, .int .i64 0, .int .u8 0, .int .i64 0, .int .i64 0, .int .i64 0, .int .u8 0] 50), (.cells #[.string ⟨#[65]⟩, .slice (some ⟨w.heap.size, 0, none⟩) 1 1] 37), (.cells #[.string ⟨#[65]⟩, .string ⟨#[66]⟩] 56), (.cells #[.slice none 0 0, .slice (some ⟨w.heap.size + 1, 0, none⟩) 1 1, .slice (some ⟨w.heap.size + 1 + 1, 0, none⟩) 1 1] 26)] w))
  clear hE
  go_enter Tryd.func13, Tryd.ntmps13
  go_wp2_with fail
  generalize hW0 : ((((w.alloc (.cells #[.int .i64 0, .int .u8 0, .int .i64 0, .string ⟨#[]⟩, .string ⟨#[120]⟩, .bool false, .int .i64 0, .int .i64 0, .int .u8 0, .int .i64 0, .int .i64 0, .int .i64 0, .int .u8 0] 50)).alloc (.cells #[.string ⟨#[65]⟩, .slice (some ⟨w.heap.size, 0, none⟩) 1 1] 37)).alloc (.cells #[.string ⟨#[65]⟩, .string ⟨#[66]⟩] 56)).alloc (.cells #[.slice none 0 0, .slice (some ⟨w.heap.size + 1, 0, none⟩) 1 1, .slice (some ⟨w.heap.size + 1 + 1, 0, none⟩) 1 1] 26)) = W0 at *
  clear hW0
  have c00 := H0.out.bx.at_ 0 _ rfl
  have c01 := H0.out.bx.at_ 1 _ rfl
  have c02 := H0.out.bx.at_ 2 _ rfl
  have K1 := Lib.hid (lzone_any (s7 w.heap.size) ⟨#[66]⟩ _ H0.out.lk (by decide))
  go_wp2_with fail
  refine K1.out.mono ?_
  rw [s7_Z, show (s7 w.heap.size).ls = ks7 from rfl, zn7_B]
  rintro e W1 ⟨rfl, b1⟩
  have H1 := Lib.hid (H0.out.on b1)
  have HE1 := Lib.hid (HE.out.below b1)
  clear c00 c01 c02 K1 b1 H0 HE
  have c00 := H1.out.bx.at_ 0 _ rfl
  have c01 := H1.out.bx.at_ 1 _ rfl
  have c02 := H1.out.bx.at_ 2 _ rfl
  have K2 := Lib.hid (well_any (s7 w.heap.size) W1 HE1.out H1.out.lk.at_ (fok7 _) true (right7 _) [] (all7 _))
  go_wp2_with fail
  refine K2.out.mono ?_
  rintro e W2 ⟨rfl, b2⟩
  have H2 := Lib.hid (H1.out.on b2)
  clear c00 c01 c02 K2 b2 H1 HE1
  have c00 := H2.out.bx.at_ 0 _ rfl
  have c01 := H2.out.bx.at_ 1 _ rfl
  have c02 := H2.out.bx.at_ 2 _ rfl
  have K3 := Lib.hid (names_any (s7 w.heap.size) W2 H2.out.lk.at_ (by decide : (1 + 1 : Nat) ≤ 4096))
  go_wp2_with fail
  refine K3.out.mono ?_
  rintro e W3 ⟨hrow, b3⟩
  obtain ⟨A, c, rfl, _⟩ := rowE_sl hrow
  have hfin := H2.out.bel.trans (b3.mono H2.out.bel.size)
  clear hrow b3 K3 c00 c01 c02
  go_wp2_with fail
  go_ret
  exact ⟨rfl, hfin⟩
end Go.Proofs.YthlbockphdbpkaaDoor
