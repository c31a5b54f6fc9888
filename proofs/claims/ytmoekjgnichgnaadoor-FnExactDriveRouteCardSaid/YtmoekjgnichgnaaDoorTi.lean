/-
  IsTrack, the model's text.
-/
import Derived.Test.YtmoekjgnichgnaaDoorTp
import Derived.Deep.LoopGhost
namespace Go.Proofs.YtmoekjgnichgnaaDoor
open Go.RowKit
set_option linter.unusedVariables false

theorem byte_get {s : ByteArray} {x : Nat} (h : x < s.size) : s.data.toList[x]? = some (s[x]'h) := by
  rw [Array.getElem?_toList]
  exact Array.getElem?_eq_getElem h
theorem count_snoc (l : List UInt8) (b c : UInt8) : (l ++ [b]).count c = l.count c + (if b = c then 1 else 0) := by
  rw [List.count_append, List.count_singleton]
  by_cases h : b = c <;> simp [h]
theorem sqOk_cases {b : UInt8} (h : sqOk b = true) : b = 46 ∨ b = 35 ∨ b = 83 ∨ b = 71 := by
  simpa [sqOk, or_assoc] using h
theorem nat_byte {b : UInt8} {k : Nat} (hk : k < 256) : ((b.toNat : Int) = (k : Int)) ↔ b = UInt8.ofNat k := by
  constructor
  · intro h
    have h2 : b.toNat = k := by omega
    rw [← h2]
    simp
  · rintro rfl
    rw [UInt8.toNat_ofNat', Nat.mod_eq_of_lt (by omega)]
theorem trk_bad {ss : List ByteArray} {b : UInt8} (hb : b ∈ bts ss) (h : sqOk b = false) : trk ss = false := by
  unfold trk
  have : (bts ss).all sqOk = false := by
    rw [List.all_eq_false]
    exact ⟨b, hb, by rw [h]; simp⟩
  rw [this, Bool.false_and, Bool.and_false]
theorem byte_tests (b : UInt8) : ((b.toNat : Int) == 46) = decide (b = 46) ∧ ((b.toNat : Int) == 35) = decide (b = 35) ∧ ((b.toNat : Int) == 83) = decide (b = 83) ∧ ((b.toNat : Int) == 71) = decide (b = 71) := by
  have h : ∀ k : Nat, k < 256 → ((b.toNat : Int) == (k : Int)) = decide (b = UInt8.ofNat k) := fun k hk => by
    rw [Bool.eq_iff_iff, beq_iff_eq, decide_eq_true_eq]
    exact nat_byte hk
  exact ⟨h 46 (by omega), h 35 (by omega), h 83 (by omega), h 71 (by omega)⟩
/-- What the rows before have: only squares; so many starts, and so many goals. -/
structure Seen (l : List UInt8) (st gl : Nat) : Prop where
  ok : l.all sqOk = true
  s : l.count 83 = st
  g : l.count 71 = gl
theorem Seen.nil : Seen [] 0 0 := ⟨rfl, rfl, rfl⟩
theorem Seen.next {l : List UInt8} {st gl : Nat} (h : Seen l st gl) {b : UInt8} (hb : sqOk b = true) : Seen (l ++ [b]) (st + (if b = 83 then 1 else 0)) (gl + (if b = 71 then 1 else 0)) := by
  refine ⟨?_, ?_, ?_⟩
  · rw [List.all_append, h.ok]
    simp [hb]
  · rw [count_snoc, h.s]
  · rw [count_snoc, h.g]
theorem Seen.out {ss : List ByteArray} (hs : shp ss = true) {st gl : Nat} (h : Seen (bts ss) st gl) : trk ss = (decide (st = 1) && decide (1 ≤ gl)) := by
  rw [trk_of hs, h.ok, Bool.true_and, h.s, h.g]
theorem wid_of {ss : List ByteArray} {s : ByteArray} (h : ss[0]? = some s) : wid ss = s.size := by
  unfold wid
  rw [List.getD_eq_getElem?_getD, h]
  rfl

set_option maxRecDepth 100000 in
set_option maxHeartbeats 4000000 in
theorem l08Is_any (a : Option Addr) (c : Nat) (ss : List ByteArray) (W : World) (ha : StrsAt W a ss) (hl : ss.length ≤ 1048576) (hz : ∀ s ∈ ss, s.size ≤ 1048576) :
    Calls Tryd.prog 52 #[.slice a ss.length c] W (RetB (.bool (trk ss)) W) := by
  obtain ⟨n, hn⟩ : ∃ n, n = ss.length := ⟨_, rfl⟩
  by_cases h1 : 1 ≤ n ∧ n ≤ 16
  · obtain ⟨b0, o0, s0, rfl, hc0, hg0⟩ := ha.one (k := 0) (by omega)
    have hw := wid_of hg0.out
    have hz0 := hz s0 (List.mem_of_getElem? hg0.out)
    have c0 : W.cell? ⟨b0, o0, none⟩ = some (.string s0) := by simpa using hc0
    have HA := hide ha
    have HN := hide hn
    have HZ := hide hz
    obtain ⟨n1, n16⟩ := h1
    by_cases h2 : 1 ≤ s0.size ∧ s0.size ≤ 16
    · obtain ⟨s1, s16⟩ := h2
      obtain ⟨r, hr⟩ : ∃ r, r = trk ss := ⟨_, rfl⟩
      have HR := hide hr
      rw [← hr]
      have HW := hide hw
      have c0p : ∀ m, (W.drewN m).cell? ⟨b0, o0, none⟩ = some (.string s0) := fun m => c0
      rw [← hn]
      clear ha hn hz hr hw hc0 hg0 hz0
      go_enter Tryd.func52, Tryd.ntmps52
      go_wp2
      go_loopw [3, 4, 5] (fun v3 v4 v5 wr => ∃ (y st gl : Nat), v3 = .int .i64 st ∧ v4 = .int .i64 gl ∧ v5 = .int .i64 y ∧ y ≤ n ∧ st ≤ y * 16 ∧ gl ≤ y * 16 ∧ Hid (Seen (bts (ss.take y)) st gl) ∧ Hid (∀ s ∈ ss.take y, rowOk (wid ss) s = true) ∧ Hid (Quiet W wr)) (fun _ _ v5 _ => n - (intOf v5).toNat)
      case atStart => exact ⟨0, 0, 0, rfl, rfl, rfl, Nat.zero_le _, Nat.le_refl _, Nat.le_refl _, hide Seen.nil, hide (by simp), hide (Quiet.refl _)⟩
      case round =>
        obtain ⟨y, st, gl, rfl, rfl, rfl, hy, hst, hgl, hS, hO, HQ⟩ := hrel
        obtain ⟨m, rfl⟩ := HQ.out
        by_cases hlt : y < n
        · obtain ⟨b1, o1, s, e1, hc, hg⟩ := HA.out.one (k := y) (by rw [← HN.out]; exact hlt)
          simp only [Option.some.injEq, Addr.mk.injEq, and_true] at e1
          obtain ⟨rfl, rfl⟩ := e1
          have hsz := HZ.out s (List.mem_of_getElem? hg.out)
          by_cases hne : s.size = s0.size
          · have hsz0 : s.size ≤ 16 := by omega
            have hro : Hid (∀ s ∈ ss.take (y + 1), rowOk (wid ss) s = true) := hide (fun z hz => by
              rw [List.take_add_one, hg.out] at hz
              rcases List.mem_append.1 hz with h | h
              · exact hO.out z h
              · simp at h
                subst h
                rw [HW.out]
                exact rowOk_iff.2 ⟨hne, by omega, by omega⟩)
            have hbt : Hid (bts (ss.take (y + 1)) = bts (ss.take y) ++ s.data.toList) := hide (bts_take hg.out)
            have hnd : decide ((s.size : Int) = (s0.size : Int)) = true := decide_eq_true (by omega)
            have HG := hide hg.out
            obtain ⟨K, hK⟩ : ∃ K, K = s.size := ⟨_, rfl⟩
            go_wp2
            go_quiet (fail)
            go_wp2
            clear hnd
            go_loopw [3, 4, 6] (fun v3 v4 v6 wr => ∃ (x st gl : Nat), v3 = .int .i64 st ∧ v4 = .int .i64 gl ∧ v6 = .int .i64 x ∧ x ≤ s.size ∧ st ≤ y * 16 + x ∧ gl ≤ y * 16 + x ∧ Hid (Seen (bts (ss.take y) ++ s.data.toList.take x) st gl) ∧ Hid (Quiet W wr)) (fun _ _ v6 _ => s.size - (intOf v6).toNat)
            case atStart => exact ⟨0, st, gl, rfl, rfl, rfl, Nat.zero_le _, by omega, by omega, hide (by rw [List.take_zero, List.append_nil]; exact hS.out), hide (Quiet.drewN ⟨m, rfl⟩ _)⟩
            case round =>
              clear hS hst hgl
              obtain ⟨x, st, gl, rfl, rfl, rfl, hx, hst, hgl, hS, HQ⟩ := hrel
              obtain ⟨m, rfl⟩ := HQ.out
              by_cases hxl : x < s.size
              · have hb := byte_get hxl
                have hbt2 : Hid (s.data.toList.take (x + 1) = s.data.toList.take x ++ [s[x]'hxl]) := hide (by rw [List.take_add_one, hb]; rfl)
                have hbm : Hid (s[x]'hxl ∈ bts ss) := hide (bts_mem HG.out (List.mem_of_getElem? hb))
                obtain ⟨q46, q35, q83, q71⟩ := byte_tests (s[x]'hxl)
                have hnx : Hid (sqOk (s[x]'hxl) = true → Seen (bts (ss.take y) ++ s.data.toList.take (x + 1)) (st + (if s[x]'hxl = 83 then 1 else 0)) (gl + (if s[x]'hxl = 71 then 1 else 0))) := hide (fun h => by
                  rw [hbt2.out, ← List.append_assoc]
                  exact hS.out.next h)
                clear hb hS
                by_cases e46 : s[x]'hxl = 46
                · rw [e46] at hnx
                  rw [decide_eq_true e46] at q46
                  clear q35 q83 q71 e46
                  go_wp2
                  go_roundw
                  case rel => exact ⟨x + 1, st, gl, rfl, rfl, by go_num, by omega, by omega, by omega, hide (by simpa using hnx.out rfl), hide ⟨m, rfl⟩⟩
                  case measure => simp [intOf]; omega
                by_cases e35 : s[x]'hxl = 35
                · rw [e35] at hnx
                  rw [decide_eq_false e46] at q46
                  rw [decide_eq_true e35] at q35
                  clear q83 q71 e46 e35
                  go_wp2
                  go_roundw
                  case rel => exact ⟨x + 1, st, gl, rfl, rfl, by go_num, by omega, by omega, by omega, hide (by simpa using hnx.out rfl), hide ⟨m, rfl⟩⟩
                  case measure => simp [intOf]; omega
                by_cases e83 : s[x]'hxl = 83
                · rw [e83] at hnx
                  rw [decide_eq_false e46] at q46
                  rw [decide_eq_false e35] at q35
                  rw [decide_eq_true e83] at q83
                  clear q71 e46 e35 e83
                  go_wp2
                  go_roundw
                  case rel => exact ⟨x + 1, st + 1, gl, by go_num, rfl, by go_num, by omega, by omega, by omega, hide (by simpa using hnx.out rfl), hide ⟨m, rfl⟩⟩
                  case measure => simp [intOf]; omega
                by_cases e71 : s[x]'hxl = 71
                · rw [e71] at hnx
                  rw [decide_eq_false e46] at q46
                  rw [decide_eq_false e35] at q35
                  rw [decide_eq_false e83] at q83
                  rw [decide_eq_true e71] at q71
                  clear e46 e35 e83 e71
                  go_wp2
                  go_roundw
                  case rel => exact ⟨x + 1, st, gl + 1, rfl, by go_num, by go_num, by omega, by omega, by omega, hide (by simpa using hnx.out rfl), hide ⟨m, rfl⟩⟩
                  case measure => simp [intOf]; omega
                have hno : sqOk (s[x]'hxl) = false := by simp [sqOk, e46, e35, e83, e71]
                have hfin : Hid (r = false) := hide (by rw [HR.out]; exact trk_bad hbm.out hno)
                rw [decide_eq_false e46] at q46
                rw [decide_eq_false e35] at q35
                rw [decide_eq_false e83] at q83
                rw [decide_eq_false e71] at q71
                clear e46 e35 e83 e71 hno hnx
                go_wp2
                go_ret
                exact ⟨by rw [hfin.out]; rfl, Quiet.below ⟨m, rfl⟩⟩
              · have hfin : Hid (Seen (bts (ss.take (y + 1))) st gl) := hide (by
                  have := hS.out
                  rw [List.take_of_length_le (l := s.data.toList) (by show s.size ≤ x; omega)] at this
                  rw [hbt.out]
                  exact this)
                go_wp2
                go_roundw
                case rel => exact ⟨y + 1, st, gl, rfl, rfl, by go_num, by omega, by omega, by omega, hfin, hro, hide ⟨m, rfl⟩⟩
                case measure => simp [intOf]; omega
          · have hfin : Hid (r = false) := hide (by
              rw [HR.out]
              refine trk_no (shp_bad hg.out ?_)
              rw [HW.out]
              simp [rowOk, hne])
            rw [hfin.out]
            have hnd : decide ((s.size : Int) = (s0.size : Int)) = false := decide_eq_false (by omega)
            go_wp2
            go_quiet (fail)
            go_wp2
            go_ret
            exact ⟨rfl, Quiet.below (Quiet.drewN ⟨m, rfl⟩ _)⟩
        · have hyn : y = n := by omega
          have hfin : Hid (r = (decide (st = 1) && decide (1 ≤ gl))) := hide (by
            have h3 := hO.out
            have h4 := hS.out
            rw [hyn, HN.out, List.take_length] at h3 h4
            rw [HR.out]
            exact h4.out (shp_all (by rw [← HN.out]; omega) (by rw [← HN.out]; omega) h3))
          clear hO hS
          by_cases e1 : st = 1
          · by_cases e2 : 0 < gl
            · have hr : Hid (r = true) := hide (by rw [hfin.out, decide_eq_true e1, decide_eq_true (show 1 ≤ gl by omega)]; rfl)
              clear hyn
              go_wp2
              go_ret
              exact ⟨by rw [hr.out]; rfl, Quiet.below ⟨m, rfl⟩⟩
            · have hr : Hid (r = false) := hide (by rw [hfin.out, decide_eq_false (show ¬ 1 ≤ gl by omega), Bool.and_false])
              clear hyn
              go_wp2
              go_ret
              exact ⟨by rw [hr.out]; rfl, Quiet.below ⟨m, rfl⟩⟩
          · have hr : Hid (r = false) := hide (by rw [hfin.out, decide_eq_false e1, Bool.false_and])
            have hd : ((st : Int) == 1) = false := by rw [beq_eq_false_iff_ne]; omega
            clear hyn
            go_wp2
            go_ret
            exact ⟨by rw [hr.out]; rfl, Quiet.below ⟨m, rfl⟩⟩
    · have hfin : Hid (trk ss = false) := hide (trk_no (by
        cases h : shp ss
        · rfl
        · have := (shp_parts h).2.2.1
          rw [hw] at this
          exact absurd this h2))
      rw [hfin.out, ← hn]
      clear ha hz hn hw hc0 hg0
      by_cases h3 : s0.size < 1
      · go_enter Tryd.func52, Tryd.ntmps52
        go_wp2
        go_ret
        exact ⟨rfl, Below.refl _ _⟩
      · have h4 : ¬ s0.size ≤ 16 := fun h => h2 ⟨by omega, h⟩
        clear h2
        go_enter Tryd.func52, Tryd.ntmps52
        go_wp2
        go_ret
        exact ⟨rfl, Below.refl _ _⟩
  · have hfin : Hid (trk ss = false) := hide (trk_no (shp_len (by rw [← hn]; exact h1)))
    rw [hfin.out, ← hn]
    clear ha hz hn
    by_cases h2 : n < 1
    · go_enter Tryd.func52, Tryd.ntmps52
      go_wp2
      go_ret
      exact ⟨rfl, Below.refl _ _⟩
    · have h3 : ¬ n ≤ 16 := fun h => h1 ⟨by omega, h⟩
      clear h1
      go_enter Tryd.func52, Tryd.ntmps52
      go_wp2
      go_ret
      exact ⟨rfl, Below.refl _ _⟩
theorem l08Is_is {b : Bool} {a : Option Addr} {c : Nat} {ss : List ByteArray} (h : trk ss = b) {W : World} (ha : StrsAt W a ss) (hl : ss.length ≤ 1048576) (hz : ∀ s ∈ ss, s.size ≤ 1048576) :
    Calls Tryd.prog 52 #[.slice a ss.length c] W (RetB (.bool b) W) := by
  rw [← h]
  exact l08Is_any a c ss W ha hl hz
set_option maxHeartbeats 400000 in
theorem specIsTrack_any (a : Option Addr) (c : Nat) (ss : List ByteArray) (W : World) (ha : StrsAt W a ss) (hl : ss.length ≤ 1048576) (hz : ∀ s ∈ ss, s.size ≤ 1048576) :
    Calls Tryd.prog 16 #[.slice a ss.length c] W (RetB (.bool (trk ss)) W) := by
  have HC := hide (l08Is_any a c ss W ha hl hz)
  clear ha hz
  go_enter Tryd.func16, Tryd.ntmps16
  go_wp2_with fail
  refine HC.out.mono ?_
  rintro e w1 ⟨rfl, hb⟩
  have HB := hide hb
  clear hb
  go_wp2_with fail
  go_ret
  exact ⟨rfl, HB.out⟩
end Go.Proofs.YtmoekjgnichgnaaDoor
