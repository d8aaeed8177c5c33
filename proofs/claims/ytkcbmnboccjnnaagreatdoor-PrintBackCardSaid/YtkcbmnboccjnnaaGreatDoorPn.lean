/- Links and zones that are not right are not written. -/
import Derived.Test.YtkcbmnboccjnnaaGreatDoorPx
namespace Go.Proofs.YtkcbmnboccjnnaaGreatDoor
open Go.RowKit
set_option maxRecDepth 100000
set_option maxHeartbeats 2000000 in
theorem plink_no (k : Lk) (w : World) (hE : Ev w) (h : So.link k = false) (s1 : k.tg.size ≤ 9223372036854775807) (s2 : k.nm.size ≤ 9223372036854775807) :
    Calls Tryz.prog 22 #[.agg #[.string k.tg, .string k.nm]] w fun e w' => e = tup [] 2 ∧ Below w.heap.size w w' := by
  have hb := box_below w (.cells #[.string k.tg, .string k.nm] 57)
  have hbx : Bx (w.alloc (.cells #[.string k.tg, .string k.nm] 57)) w.heap.size [.string k.tg, .string k.nm] := Bx.mk' w w.heap.size #[.string k.tg, .string k.nm] _ rfl
  generalize hw1 : w.alloc (.cells #[.string k.tg, .string k.nm] 57) = w1 at *
  have hb1 := box_below w1 (.cells #[.string k.tg, .string k.nm] 57)
  have hbx1 : Bx (w1.alloc (.cells #[.string k.tg, .string k.nm] 57)) w1.heap.size [.string k.tg, .string k.nm] := Bx.mk' w1 w1.heap.size #[.string k.tg, .string k.nm] _ rfl
  have HS : w1.heap.size = w.heap.size + 1 := by rw [← hw1]; simp
  rw [HS] at hbx1
  have H := Lib.hid (scheck_any ⟨none, 0, [], none, 0, [], some ⟨w.heap.size + 1, 0, none⟩, 1, [k]⟩ (w1.alloc (.cells #[.string k.tg, .string k.nm] 57)) ((hE.below hb).below hb1)
    ⟨by simp, by simp, by simp, by simp, by simp, by intro x hx; simp at hx; subst hx; exact ⟨s1, s2⟩⟩
    ⟨Rk.nil, Rk.nil, (fun _ h => by cases h), fun _ => ⟨_, 0, rfl, hbx1.lt, fun j u hu => by rw [Nat.zero_add]; exact hbx1.at_ j u (by simpa [lcell] using hu)⟩⟩ false (by rw [← h]; exact link_right k))
  have a1 := Lib.hid (hb.trans (hb1.mono hb.size))
  have HX := Lib.hid (hbx.on hb1)
  have c0 := hbx.at_ 0 _ rfl
  have c1 := hbx.at_ 1 _ rfl
  clear hb h s1 s2 hE hbx hb1 hbx1
  obtain ⟨tg, nm⟩ := k
  go_enter Tryz.func22, Tryz.ntmps22
  go_wp2_with fail
  refine H.out.mono ?_
  rintro e w3 ⟨rfl, b3⟩
  have a3 := a1.out.trans (b3.mono a1.out.size)
  have hx3 := HX.out.on b3
  have d0 := hx3.at_ 0 _ rfl
  have d1 := hx3.at_ 1 _ rfl
  have hb4 := box_below w3 (.cells #[.string tg, .string nm] 9)
  have hs4 : (w3.alloc (.cells #[.string tg, .string nm] 9)).heap.size = w3.heap.size + 1 := by simp
  clear H a1 HX b3 hx3 c0 c1
  generalize hw4 : w3.alloc (.cells #[.string tg, .string nm] 9) = w4 at *
  have hb5 := box_below w4 (.cells #[.string ⟨#[76, 105, 110, 107]⟩] 9)
  have hJ := pjoin_no (.slice (some ⟨w3.heap.size, 0, none⟩) 2 2) (.slice (some ⟨w4.heap.size, 0, none⟩) 1 1) 2 (w4.alloc (.cells #[.string ⟨#[76, 105, 110, 107]⟩] 9)) rfl (by decide)
  rw [hs4] at hJ
  have HJ := Lib.hid hJ
  have a5 := (a3.trans (hb4.mono a3.size))
  have HB5 := Lib.hid (a5.trans (hb5.mono a5.size))
  clear hJ hb5 a5 hb4 a3
  go_wp2_with fail
  refine HJ.out.mono ?_
  rintro e w6 ⟨rfl, b6⟩
  have a6 := HB5.out.trans (b6.mono HB5.out.size)
  clear HJ HB5 b6
  unfold tup
  go_wp2_with fail
  go_ret2
  exact ⟨rfl, a6⟩
set_option maxHeartbeats 4000000 in
theorem pzone_no (z : Zd) (w : World) (hE : Ev w) (h : So.zone z.zn = false) (s1 : z.nm.size ≤ 9223372036854775807) (s2 : z.es.length ≤ 9223372036854775807) (s3 : ∀ e ∈ z.es, e.ru.size ≤ 9223372036854775807 ∧ e.fm.size ≤ 9223372036854775807) (hR : Rk w w.heap.size z.A (z.es.flatMap ecell)) :
    Calls Tryz.prog 19 #[.agg #[.string z.nm, .slice z.A z.es.length z.c]] w fun e w' => e = .returned (.tuple #[.slice none 0 0, .int .i64 2]) ∧ Below w.heap.size w w' := by
  have hb := box_below w (.cells #[.string z.nm, .slice z.A z.es.length z.c] 52)
  have hbx : Bx (w.alloc (.cells #[.string z.nm, .slice z.A z.es.length z.c] 52)) w.heap.size [.string z.nm, .slice z.A z.es.length z.c] := Bx.mk' w w.heap.size #[.string z.nm, .slice z.A z.es.length z.c] _ rfl
  generalize hw1 : w.alloc (.cells #[.string z.nm, .slice z.A z.es.length z.c] 52) = w1 at *
  have hb1 := box_below w1 (.cells #[.string z.nm, .slice z.A z.es.length z.c] 52)
  have hbx1 : Bx (w1.alloc (.cells #[.string z.nm, .slice z.A z.es.length z.c] 52)) w1.heap.size [.string z.nm, .slice z.A z.es.length z.c] := Bx.mk' w1 w1.heap.size #[.string z.nm, .slice z.A z.es.length z.c] _ rfl
  have HS : w1.heap.size = w.heap.size + 1 := by rw [← hw1]; simp
  rw [HS] at hbx1
  have H := Lib.hid (scheck_any ⟨none, 0, [], some ⟨w.heap.size + 1, 0, none⟩, 1, [z], none, 0, []⟩ (w1.alloc (.cells #[.string z.nm, .slice z.A z.es.length z.c] 52)) ((hE.below hb).below hb1)
    ⟨by simp, by simp, by simp, by simp, by intro x hx; simp at hx; subst hx; exact ⟨s1, s2, fun e he => s3 e he⟩, by simp⟩
    ⟨Rk.nil, (fun _ => ⟨_, 0, rfl, hbx1.lt, fun j u hu => by rw [Nat.zero_add]; exact hbx1.at_ j u (by simpa [zcell] using hu)⟩), (fun x hx => by simp at hx; subst hx; exact ((hR.on hb).on hb1)), Rk.nil⟩ false (by rw [← h]; exact zone_right1 z.zn))
  have a1 := Lib.hid (hb.trans (hb1.mono hb.size))
  have c0 := hbx.at_ 0 _ rfl
  have c1 := hbx.at_ 1 _ rfl
  clear hb h s1 s2 hE hbx hb1 hbx1 hR s3
  obtain ⟨nm, A, c, es⟩ := z
  generalize hn : es.length = n at *
  go_enter Tryz.func19, Tryz.ntmps19
  go_wp2_with fail
  refine H.out.mono ?_
  rintro e w3 ⟨rfl, b3⟩
  have a3 := a1.out.trans (b3.mono a1.out.size)
  clear H a1 b3 c0 c1
  go_wp2_with fail
  go_ret2
  exact ⟨rfl, a3⟩
end Go.Proofs.YtkcbmnboccjnnaaGreatDoor
