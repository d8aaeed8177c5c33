/- Contracts of package scan: cut and Fields. -/
import Derived.Test.YtheakfhcllgndaaCut0
import Derived.Test.YtheakfhcllgndaaCut1
import Derived.Test.YtheakfhcllgndaaCut2
namespace Go.Proofs.Ytheakfhcllgndaa
open Go.RowKit
theorem jumps_mono {J J' : Nat → Act → World → Prop} {Q : Exit → Act → World → Prop} (h : ∀ l a w, J l a w → J' l a w) : ∀ e a w, jumps J Q e a w → jumps J' Q e a w
  | .goto l, a, w, hj => h l a w hj
  | .normal, _, _, hj => hj
  | .exit _, _, _, hj => hj
  | .ret, _, _, hj => hj
  | .panic _, _, _, hj => hj
  | .outgrown, _, _, hj => hj
theorem wp_behind {P : Program} {c x : Code} {Q : Exit → Act → World → Prop} {a : Act} {w : World} (hc : c = .seq .skip x) (h : x.wp P Q a w) : c.wp P Q a w := by
  subst hc
  exact wp_seq (wp_skip h)
set_option maxRecDepth 100000 in
set_option maxHeartbeats 1000000 in
theorem cut_any (S : ByteArray) (hS : S.size ≤ 2048) (w : World) : Calls Try.prog 31 #[.string S] w fun e w' => CutE w (cutL S.data.toList none [] 0) e w' := by
  go_enter Try.func31, Try.ntmps31
  go_wp2_with fail
  refine wp_labels (CutJ w S (cutL S.data.toList none [] 0)) (cutM S) cutRest ?hf ?first ?pass
  case hf =>
    intro l a w' h
    obtain ⟨_, _, _, _, _, _, _, _, _, _, _, h⟩ := h
    rcases h with ⟨rfl, _⟩ | ⟨rfl, _⟩ | ⟨rfl, _⟩
    · kernel_rfl
    · kernel_rfl
    · kernel_rfl
  case pass =>
    intro l a w' h
    have h' := h
    obtain ⟨_, _, _, _, _, _, _, _, _, _, _, h⟩ := h
    rcases h with ⟨rfl, _⟩ | ⟨rfl, _⟩ | ⟨rfl, _⟩
    · exact wp_behind (by kernel_rfl) (cut_pass0 w S hS _ a w' h')
    · exact wp_behind (by kernel_rfl) (cut_pass1 w S hS _ a w' h')
    · exact wp_behind (by kernel_rfl) (cut_pass2 w S hS _ a w' h')
  case first =>
    go_wp2_with fail
    go_step3
    rename_i K hKK
    refine hKK _ _ (wp_mono (cut_pass0 w S hS (cutL S.data.toList none [] 0) _ w ⟨rfl, rfl, rfl, Below.refl _ _, [], .slice none 0 0, 0, Nat.zero_le _, rfl, rfl, World.ownsRow_nil _ _ _ _, .inl ⟨rfl, Nat.zero_le _, rfl⟩⟩) (jumps_mono fun l a w h => h.1))
theorem fields_long (S : ByteArray) (hS : 2048 < S.size) (hl : S.size ≤ 9223372036854775807) (w : World) : Calls Try.prog 22 #[.string S] w fun e w' => e = .returned (.tuple #[.slice none 0 0, .int .i64 2049, .int .i64 6]) ∧ w = w' := by
  go_enter Try.func22, Try.ntmps22
  go_wp2_with fail
  go_ret3
  exact ⟨rfl, rfl⟩
theorem fields_any (S : ByteArray) (hS : S.size ≤ 2048) (w : World) : Calls Try.prog 22 #[.string S] w fun e w' => CutE w (cutL S.data.toList none [] 0) e w' := by
  go_enter Try.func22, Try.ntmps22
  go_wp2_with fail
  refine (cut_any S hS _).mono ?_
  rintro e w1 ⟨hb, hE⟩
  generalize hR : cutL S.data.toList none [] 0 = R at hE
  have HR := Lib.hid hR
  clear hR
  cases R with
  | inl fs =>
    obtain ⟨v, rfl, hv⟩ := hE
    have HV := Lib.hid hv
    clear hv
    go_wp2_with fail
    go_ret3
    refine ⟨hb, ?_⟩
    rw [HR.out]
    exact ⟨v, rfl, HV.out⟩
  | inr p =>
    obtain ⟨c, y⟩ := p
    change e = _ at hE
    subst hE
    go_wp2_with fail
    go_ret3
    refine ⟨hb, ?_⟩
    rw [HR.out]
    rfl
end Go.Proofs.Ytheakfhcllgndaa
