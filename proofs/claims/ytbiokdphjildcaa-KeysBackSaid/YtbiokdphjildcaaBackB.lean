/- KeysBack (a part): the law answers true, for every input. No condition. -/

import Derived.Test.YtbiokdphjildcaaKg
import Derived.WalkKit
import Derived.ProofKit
import Derived.OpenShut
import Derived.ShutString
namespace Go.Proofs.Ytbiokdphjildcaa.keysBack
open Go.ChangeShapes Go.WideShapes Go.ChangeAt Go.RowKit
open Go.ChangeMaps (open_string shut_string)
set_option linter.unusedVariables false
set_option maxRecDepth 100000 in
set_option maxHeartbeats 4000000 in

theorem partB (a b c d k : ByteArray) (hla : a.size ≤ 3000) (hlb : b.size ≤ 3000) (hlc : c.size ≤ 3000) (hld : d.size ≤ 3000) (hlk : k.size ≤ 3000) (na : nameB a.data.toList = true) (nb : nameB b.data.toList = false) (w : World) :
    Calls Try.prog 6 #[.string a, .string b, .string c, .string d, .string k] w fun e w' => e = .returned (.bool true) ∧ Below w.heap.size w w' := by
  have qa : decide ((3000 : Int) < (a.size : Int)) = false := decide_eq_false (by omega)
  have qb : decide ((3000 : Int) < (b.size : Int)) = false := decide_eq_false (by omega)
  have qc : decide ((3000 : Int) < (c.size : Int)) = false := decide_eq_false (by omega)
  have qd : decide ((3000 : Int) < (d.size : Int)) = false := decide_eq_false (by omega)
  have qk : decide ((3000 : Int) < (k.size : Int)) = false := decide_eq_false (by omega)
  have HB0 : Hid (Below w.heap.size w w) := Lib.hid (Below.refl _ _)
  have HAW := Lib.hid awake_any
  have ea : (a.toList == a.toList) = true := by simp
  have eb : (b.toList == b.toList) = true := by simp
  have ek : (k.toList == k.toList) = true := by simp
  have H15 := Lib.hid (cluster_any a b)
  have H18 := Lib.hid (tenant_any a)
  have H11 := Lib.hid (name_any a)
  have H11b := Lib.hid (name_any b)
  have H18c := Lib.hid (tenant_any c)
  simp only [cluB_eq, tenB_eq] at H15 H18 H18c
  rw [clu_no (by rw [na, nb]; rfl), show bs [] = ⟨#[]⟩ from rfl] at H15
  rw [na] at H11
  rw [nb] at H11b
  obtain ⟨t1, t2, t3⟩ := ten_key na
  have H12 := Lib.hid (key_at _ _ t1)
  have H16 := Lib.hid (read_at (tenL a.data.toList) a.data.toList [] true (by rw [t3]; exact rd_t na) (by rw [t3]; have h := name_len na; simp only [List.length_cons]; omega))
  rw [bs_self, show bs [] = ⟨#[]⟩ from rfl] at H16
  have eT : (bs (tenL a.data.toList)).toList.isEmpty = false := by rw [toL_bs, List.isEmpty_eq_false_iff]; exact t2
  have eTY : ((bs (tenL a.data.toList)).toList == (bs (tenL c.data.toList)).toList) = (a.toList == c.toList) := by rw [toL_bs, toL_bs, ten_ten na, Lib.toList_data, Lib.toList_data]
  have eET : (([] : List UInt8) == (bs (tenL a.data.toList)).toList) = false := by rw [toL_bs, beq_eq_false_iff_ne]; exact fun h => t2 h.symm
  generalize bs (tenL a.data.toList) = T at *
  generalize bs (tenL c.data.toList) = Y at *
  generalize hp : (a.toList == c.toList) = p at *
  clear na nb t1 t2 t3
  cases p
  · skip
    rcases rd_cases k.data.toList with hr | ⟨t, hkt, hn, hr⟩ | ⟨t, u, hkt, hn, hu, hr⟩
    · have HRK := Lib.hid (read_any k (by omega))
      rw [hr, show bs [] = ⟨#[]⟩ from rfl] at HRK
      clear hr
      go_enter Try.func6, Try.ntmps6
      go_wp2_with fail
      refine (HAW.out _).mono ?_
      rintro e w1 ⟨rfl, hb⟩
      have HB1 := Lib.hid (below_trans' HB0.out hb)
      clear hb
      go_wp2_with fail
      refine (H15.out _).mono ?_
      rintro e w' ⟨rfl, rfl⟩
      go_wp2_with fail
      refine (H18.out _).mono ?_
      rintro e w' ⟨rfl, rfl⟩
      go_wp2_with fail
      refine (H11.out _).mono ?_
      rintro e w' ⟨rfl, rfl⟩
      go_wp2_with fail
      refine (H11b.out _).mono ?_
      rintro e w' ⟨rfl, rfl⟩
      go_wp2_with fail
      refine (H11.out _).mono ?_
      rintro e w' ⟨rfl, rfl⟩
      go_wp2_with fail
      refine (H12.out _).mono ?_
      rintro e w' ⟨rfl, rfl⟩
      go_wp2_with fail
      refine (H16.out _).mono ?_
      rintro e w2 ⟨rfl, hb⟩
      have HB2 := Lib.hid (below_trans' HB1.out hb)
      clear hb
      go_wp2_with fail
      refine (H18c.out _).mono ?_
      rintro e w' ⟨rfl, rfl⟩
      go_wp2_with fail
      refine (HRK.out _).mono ?_
      rintro e w3 ⟨rfl, hb⟩
      have HB3 := Lib.hid (below_trans' HB2.out hb)
      clear hb
      go_wp2
      go_ret
      exact ⟨rfl, HB3.out⟩
    · have HRK := Lib.hid (read_any k (by omega))
      have HZ := Lib.hid (cluster_at t [] [] (clu_no (by rw [name_nil, Bool.and_false])))
      have HV := Lib.hid (tenant_at t _ (ten_key hn).2.2)
      rw [← hkt, bs_self] at HV
      rw [hr, show bs [] = ⟨#[]⟩ from rfl] at HRK
      rw [show bs [] = ⟨#[]⟩ from rfl] at HZ
      have ek0 : k.toList.isEmpty = false := by rw [Lib.toList_data, hkt]; rfl
      generalize bs t = R1 at *
      clear hr hkt hn
      go_enter Try.func6, Try.ntmps6
      go_wp2_with fail
      refine (HAW.out _).mono ?_
      rintro e w1 ⟨rfl, hb⟩
      have HB1 := Lib.hid (below_trans' HB0.out hb)
      clear hb
      go_wp2_with fail
      refine (H15.out _).mono ?_
      rintro e w' ⟨rfl, rfl⟩
      go_wp2_with fail
      refine (H18.out _).mono ?_
      rintro e w' ⟨rfl, rfl⟩
      go_wp2_with fail
      refine (H11.out _).mono ?_
      rintro e w' ⟨rfl, rfl⟩
      go_wp2_with fail
      refine (H11b.out _).mono ?_
      rintro e w' ⟨rfl, rfl⟩
      go_wp2_with fail
      refine (H11.out _).mono ?_
      rintro e w' ⟨rfl, rfl⟩
      go_wp2_with fail
      refine (H12.out _).mono ?_
      rintro e w' ⟨rfl, rfl⟩
      go_wp2_with fail
      refine (H16.out _).mono ?_
      rintro e w2 ⟨rfl, hb⟩
      have HB2 := Lib.hid (below_trans' HB1.out hb)
      clear hb
      go_wp2_with fail
      refine (H18c.out _).mono ?_
      rintro e w' ⟨rfl, rfl⟩
      go_wp2_with fail
      refine (HRK.out _).mono ?_
      rintro e w3 ⟨rfl, hb⟩
      have HB3 := Lib.hid (below_trans' HB2.out hb)
      clear hb
      go_wp2_with fail
      refine (HZ.out _).mono ?_
      rintro e w' ⟨rfl, rfl⟩
      go_wp2_with fail
      refine (HV.out _).mono ?_
      rintro e w' ⟨rfl, rfl⟩
      go_wp2
      go_ret
      exact ⟨rfl, HB3.out⟩
    · have HRK := Lib.hid (read_any k (by omega))
      have HZ := Lib.hid (cluster_at t u _ (clu_key hn hu).2.2)
      rw [← hkt, bs_self] at HZ
      rw [hr] at HRK
      generalize bs t = R1 at *
      generalize bs u = R2 at *
      clear hr hkt hn hu
      go_enter Try.func6, Try.ntmps6
      go_wp2_with fail
      refine (HAW.out _).mono ?_
      rintro e w1 ⟨rfl, hb⟩
      have HB1 := Lib.hid (below_trans' HB0.out hb)
      clear hb
      go_wp2_with fail
      refine (H15.out _).mono ?_
      rintro e w' ⟨rfl, rfl⟩
      go_wp2_with fail
      refine (H18.out _).mono ?_
      rintro e w' ⟨rfl, rfl⟩
      go_wp2_with fail
      refine (H11.out _).mono ?_
      rintro e w' ⟨rfl, rfl⟩
      go_wp2_with fail
      refine (H11b.out _).mono ?_
      rintro e w' ⟨rfl, rfl⟩
      go_wp2_with fail
      refine (H11.out _).mono ?_
      rintro e w' ⟨rfl, rfl⟩
      go_wp2_with fail
      refine (H12.out _).mono ?_
      rintro e w' ⟨rfl, rfl⟩
      go_wp2_with fail
      refine (H16.out _).mono ?_
      rintro e w2 ⟨rfl, hb⟩
      have HB2 := Lib.hid (below_trans' HB1.out hb)
      clear hb
      go_wp2_with fail
      refine (H18c.out _).mono ?_
      rintro e w' ⟨rfl, rfl⟩
      go_wp2_with fail
      refine (HRK.out _).mono ?_
      rintro e w3 ⟨rfl, hb⟩
      have HB3 := Lib.hid (below_trans' HB2.out hb)
      clear hb
      go_wp2_with fail
      refine (HZ.out _).mono ?_
      rintro e w' ⟨rfl, rfl⟩
      go_wp2
      go_ret
      exact ⟨rfl, HB3.out⟩
  · skip
    rcases rd_cases k.data.toList with hr | ⟨t, hkt, hn, hr⟩ | ⟨t, u, hkt, hn, hu, hr⟩
    · have HRK := Lib.hid (read_any k (by omega))
      rw [hr, show bs [] = ⟨#[]⟩ from rfl] at HRK
      clear hr
      go_enter Try.func6, Try.ntmps6
      go_wp2_with fail
      refine (HAW.out _).mono ?_
      rintro e w1 ⟨rfl, hb⟩
      have HB1 := Lib.hid (below_trans' HB0.out hb)
      clear hb
      go_wp2_with fail
      refine (H15.out _).mono ?_
      rintro e w' ⟨rfl, rfl⟩
      go_wp2_with fail
      refine (H18.out _).mono ?_
      rintro e w' ⟨rfl, rfl⟩
      go_wp2_with fail
      refine (H11.out _).mono ?_
      rintro e w' ⟨rfl, rfl⟩
      go_wp2_with fail
      refine (H11b.out _).mono ?_
      rintro e w' ⟨rfl, rfl⟩
      go_wp2_with fail
      refine (H11.out _).mono ?_
      rintro e w' ⟨rfl, rfl⟩
      go_wp2_with fail
      refine (H12.out _).mono ?_
      rintro e w' ⟨rfl, rfl⟩
      go_wp2_with fail
      refine (H16.out _).mono ?_
      rintro e w2 ⟨rfl, hb⟩
      have HB2 := Lib.hid (below_trans' HB1.out hb)
      clear hb
      go_wp2_with fail
      refine (H18c.out _).mono ?_
      rintro e w' ⟨rfl, rfl⟩
      go_wp2_with fail
      refine (HRK.out _).mono ?_
      rintro e w3 ⟨rfl, hb⟩
      have HB3 := Lib.hid (below_trans' HB2.out hb)
      clear hb
      go_wp2
      go_ret
      exact ⟨rfl, HB3.out⟩
    · have HRK := Lib.hid (read_any k (by omega))
      have HZ := Lib.hid (cluster_at t [] [] (clu_no (by rw [name_nil, Bool.and_false])))
      have HV := Lib.hid (tenant_at t _ (ten_key hn).2.2)
      rw [← hkt, bs_self] at HV
      rw [hr, show bs [] = ⟨#[]⟩ from rfl] at HRK
      rw [show bs [] = ⟨#[]⟩ from rfl] at HZ
      have ek0 : k.toList.isEmpty = false := by rw [Lib.toList_data, hkt]; rfl
      generalize bs t = R1 at *
      clear hr hkt hn
      go_enter Try.func6, Try.ntmps6
      go_wp2_with fail
      refine (HAW.out _).mono ?_
      rintro e w1 ⟨rfl, hb⟩
      have HB1 := Lib.hid (below_trans' HB0.out hb)
      clear hb
      go_wp2_with fail
      refine (H15.out _).mono ?_
      rintro e w' ⟨rfl, rfl⟩
      go_wp2_with fail
      refine (H18.out _).mono ?_
      rintro e w' ⟨rfl, rfl⟩
      go_wp2_with fail
      refine (H11.out _).mono ?_
      rintro e w' ⟨rfl, rfl⟩
      go_wp2_with fail
      refine (H11b.out _).mono ?_
      rintro e w' ⟨rfl, rfl⟩
      go_wp2_with fail
      refine (H11.out _).mono ?_
      rintro e w' ⟨rfl, rfl⟩
      go_wp2_with fail
      refine (H12.out _).mono ?_
      rintro e w' ⟨rfl, rfl⟩
      go_wp2_with fail
      refine (H16.out _).mono ?_
      rintro e w2 ⟨rfl, hb⟩
      have HB2 := Lib.hid (below_trans' HB1.out hb)
      clear hb
      go_wp2_with fail
      refine (H18c.out _).mono ?_
      rintro e w' ⟨rfl, rfl⟩
      go_wp2_with fail
      refine (HRK.out _).mono ?_
      rintro e w3 ⟨rfl, hb⟩
      have HB3 := Lib.hid (below_trans' HB2.out hb)
      clear hb
      go_wp2_with fail
      refine (HZ.out _).mono ?_
      rintro e w' ⟨rfl, rfl⟩
      go_wp2_with fail
      refine (HV.out _).mono ?_
      rintro e w' ⟨rfl, rfl⟩
      go_wp2
      go_ret
      exact ⟨rfl, HB3.out⟩
    · have HRK := Lib.hid (read_any k (by omega))
      have HZ := Lib.hid (cluster_at t u _ (clu_key hn hu).2.2)
      rw [← hkt, bs_self] at HZ
      rw [hr] at HRK
      generalize bs t = R1 at *
      generalize bs u = R2 at *
      clear hr hkt hn hu
      go_enter Try.func6, Try.ntmps6
      go_wp2_with fail
      refine (HAW.out _).mono ?_
      rintro e w1 ⟨rfl, hb⟩
      have HB1 := Lib.hid (below_trans' HB0.out hb)
      clear hb
      go_wp2_with fail
      refine (H15.out _).mono ?_
      rintro e w' ⟨rfl, rfl⟩
      go_wp2_with fail
      refine (H18.out _).mono ?_
      rintro e w' ⟨rfl, rfl⟩
      go_wp2_with fail
      refine (H11.out _).mono ?_
      rintro e w' ⟨rfl, rfl⟩
      go_wp2_with fail
      refine (H11b.out _).mono ?_
      rintro e w' ⟨rfl, rfl⟩
      go_wp2_with fail
      refine (H11.out _).mono ?_
      rintro e w' ⟨rfl, rfl⟩
      go_wp2_with fail
      refine (H12.out _).mono ?_
      rintro e w' ⟨rfl, rfl⟩
      go_wp2_with fail
      refine (H16.out _).mono ?_
      rintro e w2 ⟨rfl, hb⟩
      have HB2 := Lib.hid (below_trans' HB1.out hb)
      clear hb
      go_wp2_with fail
      refine (H18c.out _).mono ?_
      rintro e w' ⟨rfl, rfl⟩
      go_wp2_with fail
      refine (HRK.out _).mono ?_
      rintro e w3 ⟨rfl, hb⟩
      have HB3 := Lib.hid (below_trans' HB2.out hb)
      clear hb
      go_wp2_with fail
      refine (HZ.out _).mono ?_
      rintro e w' ⟨rfl, rfl⟩
      go_wp2
      go_ret
      exact ⟨rfl, HB3.out⟩
end Go.Proofs.Ytbiokdphjildcaa.keysBack
