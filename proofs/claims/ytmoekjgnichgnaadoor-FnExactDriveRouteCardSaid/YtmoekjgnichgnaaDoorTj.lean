/-
  IsTrack, the program's text.
-/
import Derived.Test.YtmoekjgnichgnaaDoorTi
import Derived.Test.YtmoekjgnichgnaaDoorSh
import Derived.Shelf.Strings.SlTrimAscii
import Derived.Lib.Join
namespace Go.Proofs.YtmoekjgnichgnaaDoor
open Go.RowKit
set_option linter.unusedVariables false

theorem join_bts (ss : List ByteArray) : Lib.join (ss.map (·.data.toList)) [] = bts ss := by
  cases ss with
  | nil => rfl
  | cons a r =>
    rw [List.map_cons, Lib.join_cons]
    unfold Lib.joinTail bts
    simp [List.flatMap]
    rfl
def cutset : ByteArray := ⟨#[46, 35, 83, 71]⟩
theorem in_cutset (b : UInt8) : cutset.data.toList.contains b = sqOk b := by
  show ([46, 35, 83, 71] : List UInt8).contains b = _
  unfold sqOk
  simp [List.contains, List.elem]
  rcases Bool.eq_false_or_eq_true (b == 46) with h | h <;> rcases Bool.eq_false_or_eq_true (b == 35) with h2 | h2 <;> rcases Bool.eq_false_or_eq_true (b == 83) with h3 | h3 <;> rcases Bool.eq_false_or_eq_true (b == 71) with h4 | h4 <;> simp [h, h2, h3, h4]
theorem drop_nil (p : UInt8 → Bool) : ∀ (l : List UInt8), l.dropWhile p = [] ↔ l.all p = true
  | [] => by simp
  | x :: r => by
    rw [List.dropWhile_cons, List.all_cons]
    cases h : p x
    · simp
    · simpa using drop_nil p r
theorem trim_nil {l : List UInt8} : Lib.trimS l cutset.data.toList = [] ↔ l.all sqOk = true := by
  have e : (fun b => cutset.data.toList.contains b) = sqOk := funext in_cutset
  unfold Lib.trimS Lib.trimLeftS Lib.trimRightS
  rw [e, drop_nil]
  constructor
  · intro h
    rw [List.all_reverse] at h
    have h2 : l.reverse.dropWhile sqOk = [] := by
      cases hd : l.reverse.dropWhile sqOk with
      | nil => rfl
      | cons x r =>
        have h3 := List.head?_dropWhile_not sqOk l.reverse
        rw [hd] at h3 h
        simp at h3 h
        rw [h.1] at h3
        cases h3
    rw [drop_nil, List.all_reverse] at h2
    exact h2
  · intro h
    rw [← List.all_reverse, ← drop_nil] at h
    rw [h]
    rfl
theorem loop_len (bs : ByteArray) : ∀ (d i : Nat) (r : List UInt8), bs.size - i = d → (ByteArray.toList.loop bs i r).length = r.length + d := by
  intro d
  induction d with
  | zero =>
    intro i r h
    unfold ByteArray.toList.loop
    rw [if_neg (by omega)]
    simp
  | succ d ih =>
    intro i r h
    unfold ByteArray.toList.loop
    rw [if_pos (by omega), ih (i + 1) _ (by omega)]
    simp
    omega
theorem bl_nil {s : ByteArray} (h : s.toList = []) : s = ⟨#[]⟩ := by
  have h2 := loop_len s s.size 0 [] (by omega)
  unfold ByteArray.toList at h
  rw [h] at h2
  have h3 : s.data.size = 0 := by simpa using h2.symm
  obtain ⟨d⟩ := s
  have : d = #[] := Array.eq_empty_of_size_eq_zero h3
  rw [this]
theorem arr_nil {l : List UInt8} : ((⟨l.toArray⟩ : ByteArray) = ⟨#[]⟩) ↔ l = [] := by
  constructor
  · intro h
    have := congrArg (fun b => b.data.toList) h
    simpa using this
  · rintro rfl
    rfl
theorem index_pos {c : UInt8} : ∀ {l : List UInt8}, (0 ≤ Lib.indexByte l c) ↔ c ∈ l
  | [] => by simp [Lib.indexByte]
  | b :: l => by
    have ih := index_pos (c := c) (l := l)
    have hge := Lib.indexByte_ge l c
    unfold Lib.indexByte
    by_cases h : b = c
    · subst h
      simp
    · have hb : (b == c) = false := by simpa using h
      rw [hb]
      have hc : ¬ c = b := fun e => h e.symm
      rw [List.mem_cons]
      by_cases h2 : Lib.indexByte l c = -1
      · rw [h2] at ih ⊢
        have : c ∉ l := fun hm => by have := ih.2 hm; omega
        simp [hc, this]
      · have h3 : (Lib.indexByte l c == -1) = false := by simpa using h2
        have h4 : c ∈ l := ih.1 (by omega)
        rw [h3]
        simp [hc, h4]
        omega

set_option maxRecDepth 100000 in
set_option maxHeartbeats 4000000 in
theorem implIsTrack_any (a : Option Addr) (c : Nat) (ss : List ByteArray) (W : World) (ha : StrsAt W a ss) (hl : ss.length ≤ 1048576) (hz : ∀ s ∈ ss, s.size ≤ 1048576) (hcap : ss.length ≤ c) :
    Calls Tryd.prog 18 #[.slice a ss.length c] W (RetB (.bool (trk ss)) W) := by
  obtain ⟨n, hn⟩ : ∃ n, n = ss.length := ⟨_, rfl⟩
  by_cases h1 : 1 ≤ n ∧ n ≤ 16
  · obtain ⟨b0, o0, s0, rfl, hc0, hg0⟩ := ha.one (k := 0) (by omega)
    have hw := wid_of hg0.out
    have c0 : W.cell? ⟨b0, o0, none⟩ = some (.string s0) := by simpa using hc0
    have hbl : b0 < W.heap.size := World.block_lt_of_cell? W _ c0
    have HA := hide ha
    have HN := hide hn
    have HZ := hide hz
    obtain ⟨n1, n16⟩ := h1
    obtain ⟨r, hr⟩ : ∃ r, r = trk ss := ⟨_, rfl⟩
    have HR := hide hr
    have HCAP := hide hcap
    have hz0 := hz s0 (List.mem_of_getElem? hg0.out)
    rw [← hr]
    have HW := hide hw
    obtain ⟨Sj, hSj⟩ : ∃ Sj : ByteArray, Sj = ⟨(bts ss).toArray⟩ := ⟨_, rfl⟩
    have hSl : Sj.data.toList = bts ss := by rw [hSj]
    have HJ : Hid (shp ss = true → Calls Tryd.prog 53 #[.slice (some ⟨b0, o0, none⟩) n c, .string ⟨#[]⟩] W fun e w' => e = .returned (.string Sj) ∧ Below W.heap.size W w') := hide (fun hs => by
      obtain ⟨k1, k2, k3, k4⟩ := shp_parts hs
      have hb := bts_len (ss := ss) (n := 16) (fun s hs2 => by rw [k4 s hs2]; omega)
      have h := Tryd.strings_Join b0 o0 c ss ⟨#[]⟩ W (fun j x hx => by
        obtain ⟨b1, o1, s, e1, hc1, hg1⟩ := ha.one (List.getElem?_eq_some_iff.1 hx).1
        simp only [Option.some.injEq, Addr.mk.injEq, and_true] at e1
        obtain ⟨rfl, rfl⟩ := e1
        rw [hc1]
        have := hg1.out
        rw [hx] at this
        rw [Option.some.inj this]) hbl (by omega) hcap (by rw [join_bts]; omega)
      rw [join_bts, ← hSj, ← hn] at h
      exact h)
    rw [← hn] at hcap ⊢
    clear ha hn hz hr hw hc0 hg0 hSj
    go_enter Tryd.func18, Tryd.ntmps18
    go_wp2
    go_loopw [16] (fun v wr => ∃ (y : Nat), v = .int .i64 y ∧ y ≤ n ∧ Hid (∀ s ∈ ss.take y, rowOk (wid ss) s = true) ∧ Hid (wr = W)) (fun v _ => n - (intOf v).toNat)
    case atStart => exact ⟨0, rfl, Nat.zero_le _, hide (by simp), hide rfl⟩
    case round =>
      obtain ⟨y, rfl, hy, hO, HQ⟩ := hrel
      obtain rfl := HQ.out
      by_cases hlt : y < n
      · obtain ⟨b1, o1, s, e1, hc, hg⟩ := HA.out.one (k := y) (by rw [← HN.out]; exact hlt)
        simp only [Option.some.injEq, Addr.mk.injEq, and_true] at e1
        obtain ⟨rfl, rfl⟩ := e1
        have hsz := HZ.out s (List.mem_of_getElem? hg.out)
        cases hrow : rowOk (wid ss) s
        · have hfin : Hid (r = false) := hide (by rw [HR.out]; exact trk_no (shp_bad hg.out hrow))
          rw [HW.out] at hrow
          have hrow2 : ¬ (s.size = s0.size ∧ 1 ≤ s.size ∧ s.size ≤ 16) := fun h => by rw [rowOk_iff.2 h] at hrow; cases hrow
          clear hrow hg
          by_cases q1 : s.size < 1
          · go_wp2
            go_ret
            exact ⟨by rw [hfin.out]; rfl, Below.refl _ _⟩
          · by_cases q2 : 16 < s.size
            · clear hrow2
              go_wp2
              go_ret
              exact ⟨by rw [hfin.out]; rfl, Below.refl _ _⟩
            · have q3 : ((s.size : Int) != (s0.size : Int)) = true := bne_iff_ne.2 (fun h => hrow2 ⟨by omega, by omega, by omega⟩)
              clear hrow2
              go_wp2
              go_ret
              exact ⟨by rw [hfin.out]; rfl, Below.refl _ _⟩
        · have hnx : Hid (∀ s ∈ ss.take (y + 1), rowOk (wid ss) s = true) := hide (fun z hz => by
            rw [List.take_add_one, hg.out] at hz
            rcases List.mem_append.1 hz with h | h
            · exact hO.out z h
            · simp at h
              subst h
              exact hrow)
          rw [HW.out] at hrow
          obtain ⟨q0, q1, q2⟩ := rowOk_iff.1 hrow
          have q3 : ((s.size : Int) != (s0.size : Int)) = false := by rw [bne_eq_false_iff_eq]; omega
          clear hrow hg hO q0
          go_wp2
          go_roundw
          case rel => exact ⟨y + 1, by go_num, by omega, hnx, by first | exact hide rfl | exact hide trivial⟩
          case measure => simp [intOf]; omega
      · have hsh : shp ss = true := by
          have h3 := hO.out
          rw [show y = ss.length by rw [← HN.out]; omega, List.take_length] at h3
          exact shp_all (by rw [← HN.out]; omega) (by rw [← HN.out]; omega) h3
        have HSH := hide hsh
        have hbl16 : (bts ss).length ≤ 256 := by
          obtain ⟨k1, k2, k3, k4⟩ := shp_parts hsh
          have := bts_len (ss := ss) (n := 16) (fun s hs2 => by rw [k4 s hs2]; omega)
          omega
        have hJc := hide (HJ.out hsh)
        have hsz : Sj.size ≤ 256 := by
          have e : Sj.size = Sj.data.toList.length := rfl
          rw [e, hSl]
          exact hbl16
        clear hO hsh
        go_wp2_with fail
        refine hJc.out.mono ?_
        rintro e w1 ⟨rfl, hb1⟩
        have HB1 := hide hb1
        have hT := hide (Any.strings_Trim_laid Tryd.lays160 (by kernel_rfl) Sj cutset w1 (by omega) (by decide) (ascii_of_all (by decide)))
        rw [hSl] at hT
        clear hb1
        obtain ⟨Ts, hTs⟩ : ∃ Ts : ByteArray, Ts = ⟨(Lib.trimS (bts ss) cutset.data.toList).toArray⟩ := ⟨_, rfl⟩
        rw [← hTs] at hT
        cases hall : (bts ss).all sqOk
        · have hne : ¬ Ts = ⟨#[]⟩ := fun e => by
            rw [hTs, arr_nil, trim_nil, hall] at e
            cases e
          have hne2 : ¬ Ts.toList = [] := fun e => hne (bl_nil e)
          have hfin : Hid (r = false) := hide (by rw [HR.out, trk_of HSH.out, hall]; rfl)
          clear hTs hall hne
          go_wp2_with fail
          refine hT.out.mono ?_
          rintro e w2 ⟨rfl, hb2⟩
          have HB2 := hide (Below.trans' HB1.out hb2)
          clear hb2
          go_wp2_with fail
          go_ret
          exact ⟨by rw [hfin.out]; rfl, HB2.out⟩
        · have hyes : Ts = ⟨#[]⟩ := by
            rw [hTs, arr_nil, trim_nil, hall]
          subst hyes
          have hfin : Hid (r = (decide ((bts ss).count 83 = 1) && decide (1 ≤ (bts ss).count 71))) := hide (by rw [HR.out, trk_of HSH.out, hall]; rfl)
          clear hTs hall
          go_wp2_with fail
          refine hT.out.mono ?_
          rintro e w2 ⟨rfl, hb2⟩
          have HB2 := hide (Below.trans' HB1.out hb2)
          clear hb2
          have hcnt : Hid (Calls Tryd.prog 55 #[.string Sj, .string ⟨#[83]⟩] w2 fun e w' => e = .returned (.int .i64 ((bts ss).count 83)) ∧ w' = w2) := hide (by
            have h := Tryd.strings_Count_one Sj 83 w2
            rw [hSl] at h
            exact h)
          have hcon : Hid (Calls Tryd.prog 56 #[.string Sj, .string ⟨#[71]⟩] w2 fun e w' => e = .returned (.bool (decide (1 ≤ (bts ss).count 71))) ∧ w' = w2) := hide (by
            have h := Tryd.strings_Contains_one Sj 71 w2
            rw [hSl] at h
            have e : decide (0 ≤ Lib.indexByte (bts ss) 71) = decide (1 ≤ (bts ss).count 71) := by
              rw [decide_eq_decide, index_pos]
              exact ⟨fun h => List.count_pos_iff.2 h, fun h => List.count_pos_iff.1 h⟩
            rw [e] at h
            exact h)
          obtain ⟨k, hk⟩ : ∃ k, k = (bts ss).count 83 := ⟨_, rfl⟩
          have hk2 : k ≤ 256 := by rw [hk]; exact Nat.le_trans List.count_le_length hbl16
          rw [← hk] at hcnt hfin
          clear hk hbl16
          go_wp2_with fail
          refine hcnt.out.mono ?_
          rintro e w3 ⟨rfl, rfl⟩
          by_cases e1 : k = 1
          · obtain ⟨g, hg⟩ : ∃ g, g = decide (1 ≤ (bts ss).count 71) := ⟨_, rfl⟩
            rw [← hg] at hcon hfin
            have hfin2 : Hid (r = g) := hide (by rw [hfin.out, decide_eq_true e1, Bool.true_and])
            clear hg
            go_wp2_with fail
            refine hcon.out.mono ?_
            rintro e w4 ⟨rfl, rfl⟩
            go_wp2_with fail
            go_ret
            exact ⟨by rw [hfin2.out]; rfl, HB2.out⟩
          · have hfin2 : Hid (r = false) := hide (by rw [hfin.out, decide_eq_false e1, Bool.false_and])
            have hd : ((k : Int) == 1) = false := by rw [beq_eq_false_iff_ne]; omega
            go_wp2_with fail
            go_ret
            exact ⟨by rw [hfin2.out]; rfl, HB2.out⟩
  · have hfin : Hid (trk ss = false) := hide (trk_no (shp_len (by rw [← hn]; exact h1)))
    rw [hfin.out, ← hn]
    rw [← hn] at hcap
    clear ha hz hn
    by_cases h2 : n < 1
    · go_enter Tryd.func18, Tryd.ntmps18
      go_wp2
      go_ret
      exact ⟨rfl, Below.refl _ _⟩
    · have h3 : ¬ n ≤ 16 := fun h => h1 ⟨by omega, h⟩
      clear h1
      go_enter Tryd.func18, Tryd.ntmps18
      go_wp2
      go_ret
      exact ⟨rfl, Below.refl _ _⟩
end Go.Proofs.YtmoekjgnichgnaaDoor
