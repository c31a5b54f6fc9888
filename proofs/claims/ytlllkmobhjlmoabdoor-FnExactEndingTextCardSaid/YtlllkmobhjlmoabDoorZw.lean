/-
  EndingText, both texts.
-/
import Derived.Test.YtlllkmobhjlmoabDoorZs
import Derived.Test.YtlllkmobhjlmoabDoorZj
namespace Go.Proofs.YtlllkmobhjlmoabDoor
open Go.RowKit
set_option linter.unusedVariables false

set_option maxRecDepth 100000 in
set_option maxHeartbeats 2000000 in
theorem specText_any (a : Option Addr) (c : Nat) (cs : List Int) (a' : Option Addr) (c' : Nat) (ls : List Int) (W : World) (ha : IntsAt W a cs) (ha' : IntsAt W a' ls) (hl : cs.length ≤ 1048576) (hl' : ls.length ≤ 1048576) :
    Calls Tryd.prog 11 #[.agg #[.slice a cs.length c, .slice a' ls.length c']] W (RetB (txtV (txtR cs ls)) W) := by
  obtain ⟨W0, hW0⟩ : ∃ W0, W0 = W.alloc (.cells #[.slice a cs.length c, .slice a' ls.length c'] 36) := ⟨_, rfl⟩
  have hB0 : Hid (Below W.heap.size W W0) := by rw [hW0]; exact hide (below_alloc _ _)
  have hX0 : Hid (EndIn W0 W.heap.size a cs.length c a' ls.length c') := by rw [hW0]; exact hide (endIn_new _ _ _ _ _ _ _ _)
  have hA0 := hide (ha.keep hB0.out)
  have hA0' := hide (ha'.keep hB0.out)
  obtain ⟨r, hr⟩ : ∃ r, r = txtR cs ls := ⟨_, rfl⟩
  rw [← hr]
  unfold txtR at hr
  obtain ⟨c0, c1⟩ := hX0.out
  clear ha ha'
  cases hok : okEn cs ls
  · have HR : Hid (r = ([], 1)) := hide (by rw [hr, hok]; rfl)
    have HK := hide hok
    clear hr hok
    go_enter Tryd.func11, Tryd.ntmps11
    go_wp2_with fail
    rw [← hW0]
    clear hW0
    (try go_wp2_with fail)
    refine (specIs_any _ _ cs _ _ ls _ hA0.out hA0'.out hl hl').mono ?_
    rw [HK.out]
    rintro e w1 ⟨rfl, hb1⟩
    have hB1 := hide (Below.trans' hB0.out hb1)
    clear hb1 c0 c1
    go_wp2_with fail
    go_ret2
    exact ⟨by rw [HR.out]; rfl, hB1.out⟩
  · have HR : Hid (r = (txtE cs ls, 0)) := hide (by rw [hr, hok]; rfl)
    have HK := hide hok
    clear hr hok
    go_enter Tryd.func11, Tryd.ntmps11
    go_wp2_with fail
    rw [← hW0]
    clear hW0
    (try go_wp2_with fail)
    refine (specIs_any _ _ cs _ _ ls _ hA0.out hA0'.out hl hl').mono ?_
    rw [HK.out]
    rintro e w1 ⟨rfl, hb1⟩
    have hB1 := hide (Below.trans' hB0.out hb1)
    have hA1 := hide (hA0.out.keep hb1)
    have hA1' := hide (hA0'.out.keep hb1)
    have hX1 := hide (hX0.out.keep hb1)
    clear hb1 c0 c1
    obtain ⟨c0, c1⟩ := hX1.out
    go_wp2_with fail
    refine (specTxt_any _ _ cs _ _ ls _ hA1.out hA1'.out HK.out).mono ?_
    rintro e w2 ⟨rfl, hb2⟩
    have hB2 := hide (Below.trans' hB1.out hb2)
    obtain ⟨q, hq⟩ : ∃ q, q = txtE cs ls := ⟨_, rfl⟩
    rw [← hq] at HR ⊢
    clear hb2 hq c0 c1
    go_wp2_with fail
    go_ret2
    exact ⟨by rw [HR.out]; rfl, hB2.out⟩

set_option maxRecDepth 100000 in
set_option maxHeartbeats 2000000 in
theorem implText_any (a : Option Addr) (c : Nat) (cs : List Int) (a' : Option Addr) (c' : Nat) (ls : List Int) (W : World) (ha : IntsAt W a cs) (ha' : IntsAt W a' ls) (hl : cs.length ≤ 1048576) (hl' : ls.length ≤ 1048576) :
    Calls Tryd.prog 13 #[.agg #[.slice a cs.length c, .slice a' ls.length c']] W (RetB (txtV (txtR cs ls)) W) := by
  obtain ⟨W0, hW0⟩ : ∃ W0, W0 = W.alloc (.cells #[.slice a cs.length c, .slice a' ls.length c'] 36) := ⟨_, rfl⟩
  have hB0 : Hid (Below W.heap.size W W0) := by rw [hW0]; exact hide (below_alloc _ _)
  have hX0 : Hid (EndIn W0 W.heap.size a cs.length c a' ls.length c') := by rw [hW0]; exact hide (endIn_new _ _ _ _ _ _ _ _)
  have hA0 := hide (ha.keep hB0.out)
  have hA0' := hide (ha'.keep hB0.out)
  obtain ⟨r, hr⟩ : ∃ r, r = txtR cs ls := ⟨_, rfl⟩
  rw [← hr]
  unfold txtR at hr
  obtain ⟨c0, c1⟩ := hX0.out
  clear ha ha'
  cases hok : okEn cs ls
  · have HR : Hid (r = ([], 1)) := hide (by rw [hr, hok]; rfl)
    have HK := hide hok
    clear hr hok
    go_enter Tryd.func13, Tryd.ntmps13
    go_wp2_with fail
    rw [← hW0]
    clear hW0
    (try go_wp2_with fail)
    refine (implIsE_any _ _ cs _ _ ls _ hA0.out hA0'.out hl hl').mono ?_
    rw [HK.out]
    rintro e w1 ⟨rfl, hb1⟩
    have hB1 := hide (Below.trans' hB0.out hb1)
    clear hb1 c0 c1
    go_wp2_with fail
    go_ret2
    exact ⟨by rw [HR.out]; rfl, hB1.out⟩
  · have HR : Hid (r = (txtE cs ls, 0)) := hide (by rw [hr, hok]; rfl)
    have HK := hide hok
    obtain ⟨h8, hs1, hs2⟩ := okEn_parts hok
    have hm1 := srt_mem hs1
    have hm2 := srt_mem hs2
    have j1 := jn_le cs
    have j2 := jn_le ls
    clear hr hok
    go_enter Tryd.func13, Tryd.ntmps13
    go_wp2_with fail
    rw [← hW0]
    clear hW0
    (try go_wp2_with fail)
    refine (implIsE_any _ _ cs _ _ ls _ hA0.out hA0'.out hl hl').mono ?_
    rw [HK.out]
    rintro e w1 ⟨rfl, hb1⟩
    have hB1 := hide (Below.trans' hB0.out hb1)
    have hA1 := hA0.out.keep hb1
    have hA1' := hA0'.out.keep hb1
    have hX1 := hX0.out.keep hb1
    have hJ1 : Hid (∀ p : Past w1, Calls Tryd.prog 20 #[.slice a cs.length c, .string ⟨#[44]⟩] p.to (RetB (.string ⟨(jn cs).toArray⟩) p.to)) := hide (fun p => joinN_any a c cs p.to (hA1.keep p.old) hm1 (by omega))
    have hJ2 : Hid (∀ p : Past w1, Calls Tryd.prog 20 #[.slice a' ls.length c', .string ⟨#[44]⟩] p.to (RetB (.string ⟨(jn ls).toArray⟩) p.to)) := hide (fun p => joinN_any a' c' ls p.to (hA1'.keep p.old) (fun x hx => by have := hm2 x hx; omega) (by omega))
    clear c0 c1
    obtain ⟨c0, c1⟩ := hX1.past
    obtain ⟨X, hX⟩ : ∃ X, X = jn cs := ⟨_, rfl⟩
    obtain ⟨Y, hY⟩ : ∃ Y, Y = jn ls := ⟨_, rfl⟩
    rw [← hX] at hJ1 j1
    rw [← hY] at hJ2 j2
    have HE : Hid (txtE cs ls = (X ++ [59]) ++ Y) := hide (by rw [hX, hY]; rfl)
    have hadd1 : ∀ w' : World, (Op.stringOp .add ⟨X.toArray⟩ ⟨#[59]⟩).run Tryd.prog w' = .ok (.string ⟨(X ++ [59]).toArray⟩) w' := fun w' => run_string_add_lists w' X [59] (by omega) (by simp)
    have hadd2 : ∀ w' : World, (Op.stringOp .add ⟨(X ++ [59]).toArray⟩ ⟨Y.toArray⟩).run Tryd.prog w' = .ok (.string ⟨((X ++ [59]) ++ Y).toArray⟩) w' := fun w' => run_string_add_lists w' (X ++ [59]) Y (by simp; omega) (by omega)
    clear hb1 hA1 hA1' hX1 hX hY hm1 hm2 hs1 hs2 j1 j2
    go_wp2_with fail
    refine wp_region_past (by kernel_rfl) (by kernel_rfl) ?_
    repeat (first | go_big_quiet_step ((go_at_call 20; (first | with_reducible exact ret_past (hJ1.out _) | with_reducible exact ret_past (hJ2.out _)))) | quiet_step ((go_at_call 20; (first | with_reducible exact ret_past (hJ1.out _) | with_reducible exact ret_past (hJ2.out _)))))
    refine wpQuiet_nil ?_
    rintro _ ⟨pq, rfl⟩
    have hB2 := hide (Below.trans' hB1.out pq.old)
    clear c0 c1
    go_wp2_with fail
    go_ret2
    exact ⟨by rw [HR.out, HE.out]; simp [txtV], hB2.out⟩
end Go.Proofs.YtlllkmobhjlmoabDoor
